/-
  bank: the row BankApart, walked (made by genBoS.py).
-/
import Derived.Test.YtkajlbdiofobcaaDoorBo4
namespace Go.Proofs.YtkajlbdiofobcaaDoor
open Go.RowKit Go
set_option linter.unusedVariables false
set_option linter.unusedSimpArgs false
set_option maxRecDepth 100000
/-- The two banks while the second one is filled. -/
structure Two (w wl : World) (b1 b2 g a c i : Nat) (S : FS) : Prop where
  k1 : BK wl w.heap.size b1 g a c S 0 4
  k2 : BK wl w.heap.size b2 g a c S 4 4
  n8 : S.n = 8
  s8 : S.s = 256
  off : S.off = false
  left : S.left = 0
  wr : S.wr ≤ 1000 + i * 70000
  bel : Below w.heap.size w wl
/-- The first one, while things are done with it. -/
structure Hers (w wl : World) (D : Nat) (b g a c i : Nat) (S0 T : FS) (G cW : Nat) : Prop where
  k : BK wl w.heap.size b g a c T 0 4
  n8 : T.n = 8
  s8 : T.s = 256
  wr : T.wr ≤ 100000000 + i * 200000
  bs : T.bs.drop 1024 = S0.bs.drop 1024
  was : OwnB wl D (some ⟨G, 0, none⟩) 2048 cW S0.bs
  bel : Below w.heap.size w wl
set_option maxHeartbeats 32000000 in
theorem apart8_row (A : Option Addr) (n c : Nat) (os : Nat → BOp) (B : Option Addr) (m d : Nat) (us : Nat → BOp) (w : World) (ho : IsBOps w A n c os ∧ ∀ r, r < n → (os r).kn ≤ 140737488351232 ∧ (os r).vn ≤ 140737488351232) (hu : IsBOps w B m d us ∧ ∀ r, r < m → (us r).kn ≤ 140737488351232 ∧ (us r).vn ≤ 140737488351232) (ht : Tabs w) :
    Calls Tryd.prog 8 #[.slice A n c, .slice B m d] w fun e w' => e = .returned (.bool true) ∧ Below w.heap.size w w' := by
  have HT := Lib.hid ht
  have WK := Lib.hid (fun (W : World) (hb : Below w.heap.size w W) => works8_any W (HT.out.below hb))
  have HO := Lib.hid ho.1
  have HU := Lib.hid hu
  have hR : OpsB w A n os := fun r hr => by
    obtain ⟨b, off, e, hb, _, hc⟩ := ho.1.rows r hr
    exact ⟨b, off, e, hb, hc 3 _ rfl, hc 4 _ rfl⟩
  have VS := Lib.hid (vast8_any 0 0 0 0 A n c os w hR)
  clear ht ho hu hR
  obtain ⟨S1, S2, f1, f2, f3, f4, f5, f6, f7, f8, f9⟩ := begin_calm 9 4 4 8 256 (by omega) (by omega)
  have FA := Lib.hid f1
  have FB := Lib.hid f2
  have F2 : Hid (S2.n = 8 ∧ S2.s = 256 ∧ S2.off = false ∧ S2.left = 0 ∧ S2.wr ≤ 1000 ∧ S1.wr ≤ 1000) := ⟨f5, f6, f7, f8, by omega, by omega⟩
  clear f1 f2 f3 f4 f5 f6 f7 f8 f9
  have vex : ∀ m', Hid (m' = (m : Int)) → True := fun _ _ => trivial
  clear vex
  by_cases hm : 20 < m
  all_goals
    go_enter Tryd.func8, Tryd.ntmps8
    go_wp2_with fail
    refine VS.out.mono ?_
    rintro e w0 ⟨vv, rfl, hv, hb0⟩
    have HB0 := Lib.hid hb0
    have HVV := Lib.hid hv
    clear VS hb0 hv
  · have p1 : decide ((m : Int) > 20) = true := decide_eq_true (by omega)
    cases vv
    all_goals
      clear FA FB F2 HVV
      go_wp2_with fail
      refine (WK.out _ HB0.out).mono ?_
      rintro e w2 ⟨rfl, hb2⟩
      have HB2 := Lib.hid (kp_call HB0.out hb2)
      clear hb2 HB0
      go_wp2
      go_ret
      exact ⟨rfl, HB2.out⟩
  have p1 : decide ((m : Int) > 20) = false := decide_eq_false (by omega)
  have hm20 : Hid (m ≤ 20) := by unfold Hid; omega
  cases vv with
  | true =>
    clear FA FB F2 HVV
    go_wp2_with fail
    refine (WK.out _ HB0.out).mono ?_
    rintro e w2 ⟨rfl, hb2⟩
    have HB2 := Lib.hid (kp_call HB0.out hb2)
    clear hb2 HB0
    go_wp2
    go_ret
    exact ⟨rfl, HB2.out⟩
  | false =>
    obtain ⟨hn80, _, _, hops⟩ := HVV.out rfl
    have HOPS := Lib.hid hops
    have hn80' : Hid (n ≤ 80) := hn80
    clear HVV hops hm hn80
    go_wp2_with fail
    refine (fnew_any 8 256 (by omega) (by omega) (by omega) (by omega) w0).mono ?_
    rintro e w1 ⟨g, a, cc, rfl, hf1, hb1⟩
    have HF1 : Hid (FL w1 w.heap.size g a cc (newS 8 256)) := ⟨hf1.st, hf1.own.lower HB0.out.size, Nat.le_trans HB0.out.size hf1.gb, hf1.ne, hf1.n1, hf1.n2, hf1.s1, hf1.s2, hf1.lb⟩
    have HB1 := Lib.hid (kp_call HB0.out hb1)
    clear hf1 hb1 HB0
    go_wp2_with fail
    refine (at_any (F := 0) (C := 4) HF1.out (by omega) (by show 0 + 4 ≤ 8; omega) (by show 64 ≤ 4 * 256; omega)).mono ?_
    rintro e w2 ⟨b1, rfl, hK1, hbb1, hb2⟩
    have HK1 := Lib.hid hK1
    have HB2 := Lib.hid (kp_call HB1.out hb2)
    have HF2 := Lib.hid (HF1.out.below hb2)
    clear hK1 hbb1 hb2 HF1 HB1
    go_wp2_with fail
    refine (at_any (F := 4) (C := 4) HF2.out (by omega) (by show 4 + 4 ≤ 8; omega) (by show 64 ≤ 4 * 256; omega)).mono ?_
    rintro e w3 ⟨b2, rfl, hK2, hbb2, hb3⟩
    have HK2 := Lib.hid hK2
    have HB3 := Lib.hid (kp_call HB2.out hb3)
    have HK1b := Lib.hid (HK1.out.below hb3)
    clear hK2 hbb2 hb3 HF2 HB2 HK1
    go_wp2_with fail
    have FM := format_any HT.out (Nat.le_refl _) HB3.out HK2.out (by show 0 < _; omega) 9 (by omega)
    rw [FA.out] at FM
    refine FM.mono ?_
    clear FM
    rintro e w4 ⟨rfl, hK4, hfar4⟩
    have HK4 : Hid (BK w4 w.heap.size b2 g a cc S1 4 4) := hK4
    have hs1 : S1.n = 8 ∧ S1.s = 256 := by
      have h1 := fmtQ_kept 9 4 4 (newS 8 256)
      rw [FA.out] at h1
      exact ⟨h1.1, h1.2.1⟩
    have HK1c : Hid (BK w4 w.heap.size b1 g a cc S1 0 4) := HK1b.out.next HK4.out.fl (hs1.1.trans rfl) (hs1.2.trans rfl) hfar4
    have HB4 : Hid (Below w.heap.size w w4) := HB3.out.trans (hfar4.below HK2.out.fl.gb (HK2.out.fl.own.blk_lt rfl).1 HB3.out.size)
    have HS1 := Lib.hid hs1
    clear hK4 hfar4 HK2 HB3 HK1b hs1
    go_wp2_with fail
    have RY := ready_any HK4.out (by have := F2.out.2.2.2.2.2; omega)
    rw [FB.out] at RY
    refine RY.mono ?_
    clear RY
    rintro e w5 ⟨rfl, hK5, hfar5⟩
    have TW0 : Hid (Two w w5 b1 b2 g a cc 0 S2) := by
      obtain ⟨a1, a2, a3, a4, a5, _⟩ := F2.out
      exact ⟨HK1c.out.next (show FL w5 w.heap.size g a cc S2 from hK5.fl) (a1.trans HS1.out.1.symm) (a2.trans HS1.out.2.symm) hfar5, hK5, a1, a2, a3, a4, by omega, HB4.out.trans (hfar5.below HK4.out.fl.gb (HK4.out.fl.own.blk_lt rfl).1 HB4.out.size)⟩
    clear hK5 hfar5 HK4 HB4 F2 FA FB HK1c HS1
    go_wp2_with fail
    go_loopw [11] (fun v11 wl => ∃ (i : Nat) (S : FS), v11 = .int .i64 (i : Int) ∧ i ≤ m ∧ Hid (Two w wl b1 b2 g a cc i S)) (fun v11 _ => m - (intOf v11).toNat)
    case atStart => exact ⟨0, S2, rfl, Nat.zero_le _, TW0⟩
    case round =>
      obtain ⟨i, S, rfl, hi, HS⟩ := hrel
      clear TW0
      by_cases hlt : i < m
      · have i1 : (i : Int) < (m : Int) := by omega
        have i0 : (0 : Int) ≤ (i : Int) := by omega
        have e9 : IntKind.i64.wrap ((i : Int) + 1) = (i : Int) + 1 := IntWalk.i64_in _ (by have := hm20.out; omega)
        obtain ⟨b0, off, rfl, hb0, ⟨_, _, _, hkk, hvv⟩, hc⟩ := HU.out.1.rows i hlt
        obtain ⟨hkl, hvl⟩ := HU.out.2 i hlt
        generalize us i = o at *
        obtain ⟨kd, np, pt, K, kn, kc, V, vn, vc, key, val⟩ := o
        have TK' := Lib.hid (fun W (hb : Below w.heap.size w W) => twin8_big K kn kc key W (hkk.rb.below hb) hkl)
        have TV := Lib.hid (fun W (hb : Below w.heap.size w W) => twin8_big V vn vc val W (hvv.rb.below hb) hvl)
        have KEEP : Hid (∀ W, Below w.heap.size w W → (W.cell? ⟨b0, off + i * 5 + 3, none⟩ = some (.slice K kn kc) ∧ W.cell? ⟨b0, off + i * 5 + 4, none⟩ = some (.slice V vn vc)) ∧ Below w.heap.size w W) := fun W hb => ⟨⟨kp_cell hb (hc 3 (.slice K kn kc) rfl), kp_cell hb (hc 4 (.slice V vn vc) rfl)⟩, hb⟩
        have B0 := Lib.hid HS.out.bel
        have hga : Hid (g < wr.heap.size ∧ a < wr.heap.size) := ⟨HS.out.k2.fl.alt, (HS.out.k2.fl.own.blk_lt rfl).2⟩
        have AD : Hid (∀ W, Below wr.heap.size wr W → ∀ A1 n1 c1 A2 n2 c2, OwnB W wr.heap.size A1 n1 c1 key → OwnB W wr.heap.size A2 n2 c2 val → Calls Tryd.prog 17 #[.pointer (some ⟨b2, 0, none⟩), .slice A1 n1 c1, .slice A2 n2 c2] W (AddPost W w.heap.size b2 g a cc S 4 4 key val)) := by
          intro W hb A1 n1 c1 A2 n2 c2 h1 h2
          have hx := hga.out
          refine add_any8 HT.out (Nat.le_refl _) (kp_call B0.out hb) (HS.out.k2.below hb) HS.out.off A1 A2 n1 c1 n2 c2 key val h1.rb h2.rb (fun _ d hd => ?_) (fun _ d hd => ?_) (by have := HS.out.wr; have := hm20.out; omega)
          · subst hd; have := (h1.blk_lt rfl).1; omega
          · subst hd; have := (h2.blk_lt rfl).1; omega
        clear hkk hvv hc hkl hvl hb0
        go_wp2_with fail
        go_region_held3 (fun W => (W.cell? ⟨b0, off + i * 5 + 3, none⟩ = some (.slice K kn kc) ∧ W.cell? ⟨b0, off + i * 5 + 4, none⟩ = some (.slice V vn vc)) ∧ Below w.heap.size w W)
          ((apply KEEP.out; repeat (with_reducible (first | assumption | exact B0.out | refine kp_drew ?_ | refine kp_alloc ?_ _ | refine kp_call ?_ (by assumption)))))
          (first
            | (go_at_call 18; (with_reducible refine (TK'.out _ (by (go_split_ands; assumption))).mono ?_); (rintro e X1 ⟨A1, n1, c1', rfl, ho1, hb1⟩; have HB1 : Hid (Below wr.heap.size wr X1) := (by (first | exact hb1 | exact (kp_drew (Below.refl _ _)).trans hb1)); have HO1 : Hid (OwnB X1 wr.heap.size A1 n1 c1' key) := (by (exact ho1.lower (by (first | exact Nat.le_refl _ | simp)))); clear ho1 TK'))
            | (go_at_call 18; (with_reducible refine (TV.out _ (by (go_split_ands; assumption))).mono ?_); (rintro e X2 ⟨A2, n2, c2', rfl, ho2, hb2⟩; have H2 : Hid (Below X1.heap.size X1 X2) := (by (first | exact hb2 | exact (kp_drew (Below.refl _ _)).trans hb2)); have HB2 : Hid (Below wr.heap.size wr X2) := kp_call HB1.out H2.out; have HO2 : Hid (OwnB X2 wr.heap.size A2 n2 c2' val) := (by (exact ho2.lower (Nat.le_trans HB1.out.size (by (first | exact Nat.le_refl _ | simp))))); have HO12 : Hid (OwnB X2 wr.heap.size A1 n1 c1' key) := HO1.out.below H2.out (Nat.le_refl _); clear ho2 TV))
            | (go_at_call 17; (with_reducible refine (AD.out X2 HB2.out A1 n1 c1' A2 n2 c2' HO12.out HO2.out).mono ?_); (rintro e X3 ⟨T, r, rfl, hadd, hK3, hfar3⟩; have hb3 : Below w.heap.size w X3 := (kp_call B0.out HB2.out).trans (hfar3.below HS.out.k2.fl.gb (HS.out.k2.fl.own.blk_lt rfl).1 (kp_call B0.out HB2.out).size); have HADD := Lib.hid hadd; have HK3 := Lib.hid hK3; have HF3 := Lib.hid hfar3; clear hadd hK3 hfar3 AD)))
        have NXT : Hid (Two w X3 b1 b2 g a cc (i + 1) T) := by
          obtain ⟨a1, a2, a3, a4, a5⟩ := add_off0 S 4 4 key val T r HS.out.off HS.out.left HADD.out
          have hw := HS.out.wr
          exact ⟨(HS.out.k1.below HB2.out).next HK3.out.fl a3 a4 HF3.out, HK3.out, a3.trans HS.out.n8, a4.trans HS.out.s8, a1, a2, by omega, hb3⟩
        clear HS HADD HK3 HF3 hb3 hb2 hb1 HO1 HO2 HO12 HB1 HB2 H2 B0 hga KEEP
        go_wp2_with fail
        go_roundw
        case rel => exact ⟨i + 1, T, by go_num, by omega, NXT⟩
        case measure => simp [intOf]; omega
      · have i1 : ¬ (i : Int) < (m : Int) := by omega
        go_wp2_with fail
        refine (fimage_any HS.out.k1.fl).mono ?_
        rintro e w6 ⟨AW, nW, cW, rfl, hoW, hb6⟩
        have hblen : S.bs.length = 2048 := by have := HS.out.k1.bytes; rw [HS.out.n8, HS.out.s8] at this; exact this
        obtain rfl : nW = 2048 := hoW.len.symm.trans hblen
        obtain ⟨G, rfl, hG1, hG2⟩ := hoW.shape (by have := hoW.cap.1; omega)
        obtain ⟨D, hD⟩ : ∃ D, wr.heap.size = D := ⟨_, rfl⟩
        have hcW : Hid (2048 ≤ cW) := hoW.cap.1
        have HE0 : Hid (Hers w w6 D b1 g a cc 0 S S G cW) := ⟨HS.out.k1.below hb6, HS.out.n8, HS.out.s8, by have := HS.out.wr; have := hm20.out; omega, rfl, by rw [← hD]; exact hoW, kp_call HS.out.bel hb6⟩
        have GD : Hid (g < D ∧ a < D ∧ w.heap.size ≤ g ∧ w.heap.size ≤ a) := by
          rw [← hD]; exact ⟨HS.out.k1.fl.alt, (HS.out.k1.fl.own.blk_lt rfl).2, HS.out.k1.fl.gb, (HS.out.k1.fl.own.blk_lt rfl).1⟩
        have HSL : Hid (S.bs.length = 2048) := hblen
        clear hoW hb6 hG1 hG2 HS hD hblen
        go_wp2_with fail
        go_loopw [13] (fun v13 wl => ∃ (j : Nat) (T : FS), v13 = .int .i64 (j : Int) ∧ j ≤ n ∧ Hid (Hers w wl D b1 g a cc j S T G cW)) (fun v13 _ => n - (intOf v13).toNat)
        case atStart => exact ⟨0, S, rfl, Nat.zero_le _, HE0⟩
        case round =>
          obtain ⟨j, T, rfl, hj, HE⟩ := hrel
          clear HE0
          by_cases hjn : j < n
          · have j1 : (j : Int) < (n : Int) := by omega
            have j0 : (0 : Int) ≤ (j : Int) := by omega
            have e8 : IntKind.i64.wrap ((j : Int) + 1) = (j : Int) + 1 := IntWalk.i64_in _ (by have := hn80'.out; omega)
            obtain ⟨b0, off, rfl, hb0, hIs, hc⟩ := HO.out.rows j hjn
            obtain ⟨hkn, hvn⟩ := HOPS.out j hjn
            generalize os j = o at *
            have hbel := HE.out.bel
            have DO : Hid (o.kd ≠ 8 → Calls Tryd.prog 12 #[.pointer (some ⟨g, 0, none⟩), .pointer (some ⟨b1, 0, none⟩), .agg #[.int .i64 o.kd, .int .i64 o.np, .int .i64 o.pt, .slice o.K o.kn o.kc, .slice o.V o.vn o.vc]] wr (DoesA w.heap.size b1 g a cc T wr)) := fun h8 => by
              have hgd := GD.out
              refine does8_any HT.out (Nat.le_refl _) hbel HE.out.k ⟨HE.out.n8, HE.out.s8, by have := HE.out.wr; have := hn80'.out; omega⟩ o hIs.np.2 h8 (hIs.key.rb.below hbel) (hIs.val.rb.below hbel) (by omega) (by omega) (fun hne d hd => ?_) (fun hne d hd => ?_)
              · obtain ⟨bb, off, e1, hbb, _⟩ := hIs.key.rb.2 hne
                rw [hd] at e1; injection e1 with e1; subst e1
                exact ⟨by show bb ≠ g; omega, by show bb ≠ a; omega⟩
              · obtain ⟨bb, off, e1, hbb, _⟩ := hIs.val.rb.2 hne
                rw [hd] at e1; injection e1 with e1; subst e1
                exact ⟨by show bb ≠ g; omega, by show bb ≠ a; omega⟩
            obtain ⟨kd, np, pt, K, kn, kc, V, vn, vc, key, val⟩ := o
            have c0 := kp_cell hbel (hc 0 (.int .i64 kd) rfl)
            have c1 := kp_cell hbel (hc 1 (.int .i64 np) rfl)
            have c2 := kp_cell hbel (hc 2 (.int .i64 pt) rfl)
            have c3 := kp_cell hbel (hc 3 (.slice K kn kc) rfl)
            have c4 := kp_cell hbel (hc 4 (.slice V vn vc) rfl)
            rw [Nat.add_zero] at c0
            clear hc hIs hb0 hkn hvn hbel
            by_cases h8 : kd = 8
            · have t8 : (kd != 8) = false := by rw [h8]; rfl
              have NXT : Hid (Hers w wr D b1 g a cc (j + 1) S T G cW) := ⟨HE.out.k, HE.out.n8, HE.out.s8, Nat.le_trans HE.out.wr (Nat.add_le_add_left (Nat.mul_le_mul_right _ (Nat.le_succ j)) _), HE.out.bs, HE.out.was, HE.out.bel⟩
              clear DO HE c1 c2 c3 c4
              go_wp2_with fail
              go_roundw
              case rel => exact ⟨j + 1, T, by go_num, by omega, NXT⟩
              case measure => simp [intOf]; omega
            · have t8 : (kd != 8) = true := by simp [h8]
              have DO2 := Lib.hid (DO.out h8)
              clear DO h8
              go_wp2_with fail
              refine DO2.out.mono ?_
              rintro e X3 ⟨⟨vr, rfl⟩, T3, htk, hK3, hfar3⟩
              have NXT : Hid (Hers w X3 D b1 g a cc (j + 1) S T3 G cW) := by
                have hgd := GD.out
                refine ⟨hK3, htk.n.trans HE.out.n8, htk.s.trans HE.out.s8, by have := HE.out.wr; have := htk.wr; omega, htk.bs.trans HE.out.bs, OwnR.far HE.out.was.row hfar3 hgd.1 hgd.2.1, HE.out.bel.trans (hfar3.below hgd.2.2.1 hgd.2.2.2 HE.out.bel.size)⟩
              clear DO2 HE c0 c1 c2 c3 c4 htk hK3 hfar3
              go_wp2_with fail
              go_roundw
              case rel => exact ⟨j + 1, T3, by go_num, by omega, NXT⟩
              case measure => simp [intOf]; omega
          · have j1 : ¬ (j : Int) < (n : Int) := by omega
            go_wp2_with fail
            refine (fimage_any HE.out.k.fl).mono ?_
            rintro e w7 ⟨AN, nN, cN, rfl, hoN, hb7⟩
            have hbl7 : T.bs.length = 2048 := by have := HE.out.k.bytes; rw [HE.out.n8, HE.out.s8] at this; exact this
            obtain rfl : nN = 2048 := hoN.len.symm.trans hbl7
            obtain ⟨GN, rfl, hN1, hN2⟩ := hoN.shape (by have := hoN.cap.1; omega)
            have hcN := hoN.cap.1
            have hcW2 := hcW.out
            have k1 : ¬ cW = 1024 := by omega
            have k2 : ¬ cN = 1024 := by omega
            have k3 : (1024 : Int) ≤ (cW : Int) := by omega
            have k4 : (1024 : Int) ≤ (cN : Int) := by omega
            have k5 : (2048 : Int) ≤ (cW : Int) := by omega
            have k6 : (2048 : Int) ≤ (cN : Int) := by omega
            have SK : Hid (∀ X : Up w7, Calls Tryd.prog 28 #[.slice (some ⟨G, 1024, none⟩) 1024 (cW - 1024), .slice (some ⟨GN, 1024, none⟩) 1024 (cN - 1024)] X.w fun e w' => e = .returned (.bool true) ∧ Below X.w.heap.size X.w w') := fun X => by
              have r1 := rb_restN (k := 1024) (((HE.out.was.below hb7 (Nat.le_refl _)).rb).below X.b) (by omega) k1
              have r2 := rb_restN (k := 1024) (hoN.rb.below X.b) (by omega) k2
              rw [HE.out.bs] at r2
              exact same7_one _ _ 1024 _ _ _ _ r1 r2 (by omega)
            have HB7 := Lib.hid (kp_call HE.out.bel hb7)
            clear HE hoN hb7 hbl7 hN1 hN2
            go_wp2_with fail
            refine wp_region_up (by kernel_rfl) (by kernel_rfl) ?_
            repeat (go_big_quiet_step (first | (go_at_call 28; with_reducible exact Up.calls (SK.out _)) | (go_at_call 10; with_reducible exact Up.calls (WK.out _ (kp_call HB7.out (Up.b _))))))
            refine wpQuiet_nil ?_
            rintro _ ⟨x, rfl⟩
            have hbx := Lib.hid (kp_call HB7.out x.b)
            go_wp2
            go_ret
            exact ⟨rfl, hbx.out⟩
end Go.Proofs.YtkajlbdiofobcaaDoor
