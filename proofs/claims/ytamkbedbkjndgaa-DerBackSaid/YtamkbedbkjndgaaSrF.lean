/-
  slices: symMerge in general.
-/
import Derived.Test.YtamkbedbkjndgaaSr2
import Derived.Deep.DeepCutAuto
namespace Go.Proofs.Ytamkbedbkjndgaa
open Go.RowKit Go
set_option linter.unusedVariables false
set_option linter.unusedSimpArgs false
set_option maxRecDepth 100000
/-- What the search leaves: the place s. -/
def SymS (ds : List Own1) (a m b q s : Nat) : Prop :=
  a ≤ s ∧ s ≤ m ∧ m + s ≤ q + m ∧ m ≤ q + m - s ∧ q + m - s ≤ b ∧ (a < s → q + m - s < b → ∀ x y, ds[s - 1]? = some x → ds[q + m - s]? = some y → leR x y) ∧ (s < m → m < q + m - s → ∀ x y, ds[q + m - s - 1]? = some x → ds[s]? = some y → leR x y)
/-- The two halves that are left. -/
structure Halves (ds : List Own1) (a s q e b : Nat) : Prop where
  l1 : Srt leR ds a s
  l2 : Srt leR ds s q
  r1 : Srt leR ds q e
  r2 : Srt leR ds e b
  x : ∀ i j x y, a ≤ i → i < q → q ≤ j → j < b → ds[i]? = some x → ds[j]? = some y → leR x y
theorem halves_left {ds ds' : List Own1} {a s q e b : Nat} (h : Halves ds a s q e b) (hq : q ≤ e) (l : Like a q ds ds') : Srt leR ds' q e ∧ Srt leR ds' e b ∧ (∀ i j x y, a ≤ i → i < q → q ≤ j → j < b → ds'[i]? = some x → ds'[j]? = some y → leR x y) :=
  ⟨h.r1.same fun i hi _ => l.out i (.inr hi), h.r2.same fun i hi _ => l.out i (.inr (by omega)), ahead_like h.x l⟩
theorem srt_triv {ds : List Own1} {a s q : Nat} (h : ¬ (a < s ∧ s < q)) (h1 : a ≤ s) (h2 : s ≤ q) (l1 : Srt leR ds a s) (l2 : Srt leR ds s q) : Srt leR ds a q := by
  by_cases e : s = q
  · subst e; exact l1
  · obtain rfl : s = a := by omega
    exact l2
set_option maxHeartbeats 4000000 in
theorem sym_gen (w0 W : World) (g n c a m b : Nat) (ds : List Own1) (hS : ST w0 g n c ds W) (hn : n ≤ 1000000000) (ham : a + 1 < m) (hbm : m + 1 < b) (h3 : b ≤ n) (hs1 : Srt leR ds a m) (hs2 : Srt leR ds m b)
    (ih : Hid (∀ (a' m' b' : Nat) (ds' : List Own1) (W' : World), b' - a' < b - a → a' < m' → m' < b' → b' ≤ n → ST w0 g n c ds' W' → Srt leR ds' a' m' → Srt leR ds' m' b' → Calls Try.prog 55 #[.slice (some ⟨g, 0, none⟩) n c, .int .i64 (a' : Int), .int .i64 (m' : Int), .int .i64 (b' : Int), .func (Fn.func 40) #[] #[]] W' fun e w' => e = .returned (.tuple #[]) ∧ ∃ dz, ST w0 g n c dz w' ∧ Like a' b' ds' dz ∧ Srt leR dz a' b')) :
    Calls Try.prog 55 #[.slice (some ⟨g, 0, none⟩) n c, .int .i64 (a : Int), .int .i64 (m : Int), .int .i64 (b : Int), .func (Fn.func 40) #[] #[]] W fun e w' => e = .returned (.tuple #[]) ∧ ∃ dz, ST w0 g n c dz w' ∧ Like a b ds dz ∧ Srt leR dz a b := by
  have HS := Lib.hid hS
  have HO1 := Lib.hid hs1
  have HO2 := Lib.hid hs2
  have t1 : ((m : Int) - (a : Int) == 1) = false := by simp; omega
  have t2 : ((b : Int) - (m : Int) == 1) = false := by simp; omega
  obtain ⟨q, hq⟩ : ∃ q : Nat, ((a : Int) + (b : Int)) / 2 = (q : Int) := ⟨(a + b) / 2, by omega⟩
  have q1 : 2 * q ≤ a + b := by omega
  have q2 : a + b ≤ 2 * q + 1 := by omega
  clear hS hs1 hs2
  go_enter Try.func55, Try.ntmps55
  go_upto_if 140 with (fail)
  go_cut [20, 21] (fun s r wx => ∃ s0 r0 : Nat, s = .int .i64 (s0 : Int) ∧ r = .int .i64 (r0 : Int) ∧ ((q < m ∧ s0 + b = q + m ∧ r0 = q) ∨ (m ≤ q ∧ s0 = a ∧ r0 = m)) ∧ wx = W)
  case first =>
    by_cases hqm : q < m
    · have i1 : (q : Int) < (m : Int) := by omega
      go_wp2_with fail
      go_meet
      exact ⟨q + m - b, q, by congr 1; omega, rfl, .inl ⟨hqm, by omega, rfl⟩, rfl⟩
    · have i1 : ¬ (q : Int) < (m : Int) := by omega
      go_wp2_with fail
      go_meet
      exact ⟨a, m, rfl, rfl, .inr ⟨by omega, rfl, rfl⟩, rfl⟩
  case rest => as_aux_lemma =>
    obtain ⟨s0, r0, rfl, rfl, hsr, rfl⟩ := hcut
    clear hq t1 t2
    have HSR := Lib.hid hsr
    have g1 : s0 ≤ r0 := by omega
    have g2 : a ≤ s0 := by omega
    have g3 : r0 ≤ m := by omega
    have g4 : r0 ≤ q := by omega
    have g5 : q + m ≤ s0 + b := by omega
    clear hsr
    go_wp2
    go_loopw [20, 21] (fun vi vj wl => ∃ (i j : Nat), vi = .int .i64 (i : Int) ∧ vj = .int .i64 (j : Int) ∧ s0 ≤ i ∧ i ≤ j ∧ j ≤ r0 ∧ Hid (ST w0 g n c ds wl ∧ (s0 < i → ∀ x y, ds[i - 1]? = some x → ds[q + m - i]? = some y → leR x y) ∧ (j < r0 → ∀ x y, ds[q + m - j - 1]? = some x → ds[j]? = some y → leR x y))) (fun vi vj _ => (intOf vj).toNat - (intOf vi).toNat)
    case atStart => exact ⟨s0, r0, rfl, rfl, Nat.le_refl _, g1, Nat.le_refl _, HS.out, fun h => absurd h (Nat.lt_irrefl _), fun h => absurd h (Nat.lt_irrefl _)⟩
    case round =>
      obtain ⟨i, j, rfl, rfl, hmi, hij, hjb, HK⟩ := hrel
      by_cases hlt : i < j
      · as_aux_lemma =>
        obtain ⟨h, hh⟩ : ∃ h : Nat, ((i : Int) + (j : Int)) / 2 = (h : Int) := ⟨(i + j) / 2, by omega⟩
        have hb1 : i ≤ h := by omega
        have hb2 : h < j := by omega
        obtain ⟨u, hu⟩ : ∃ u : Nat, (q : Int) + (m : Int) - 1 - (h : Int) = (u : Int) := ⟨q + m - 1 - h, by omega⟩
        have hun : u < n := by omega
        obtain ⟨hst, hl, hr⟩ := HK.out
        obtain ⟨x, hx⟩ := hst.get hun
        obtain ⟨y, hy⟩ := hst.get (show h < n by omega)
        have c1 := hst.cell hx
        have c2 := hst.cell hy
        have CC := Lib.hid (fun k => cmp_q x y (wr.drewN k) (hst.rb hx (hst.drewN k).bel) (hst.rb hy (hst.drewN k).bel))
        have HSS := Lib.hid hst
        have HU := Lib.hid (show q + m - (h + 1) = u ∧ q + m - h - 1 = u from ⟨by omega, by omega⟩)
        have st1 := Lib.hid (fun (hc : ¬ Lib.compareBytes x.2.2.2 y.2.2.2 < 0) (_ : s0 < h + 1) v1 v2 (h1 : ds[h + 1 - 1]? = some v1) (h2 : ds[q + m - (h + 1)]? = some v2) => show leR v1 v2 from by
          rw [Nat.add_sub_cancel, hy] at h1
          rw [HU.out.1, hx] at h2
          cases h1; cases h2
          exact leR_of_not hc)
        have st2 := Lib.hid (fun (hc : Lib.compareBytes x.2.2.2 y.2.2.2 < 0) (_ : h < r0) v1 v2 (h1 : ds[q + m - h - 1]? = some v1) (h2 : ds[h]? = some v2) => show leR v1 v2 from by
          rw [HU.out.2, hx] at h1
          rw [hy] at h2
          cases h1; cases h2
          exact leR_of_lt hc)
        have HL := Lib.hid hl
        have HR := Lib.hid hr
        clear hst hl hr hx hy HK
        obtain ⟨xa, xn, xc, xb⟩ := x
        obtain ⟨ya, yn, yc, yb⟩ := y
        simp only at c1 c2 CC st1 st2
        have i3 : (h : Int) < (n : Int) := by omega
        have i4 : h < n := by omega
        have i5 : (u : Int) < (n : Int) := by omega
        have i6 : IntKind.i64.wrap ((q : Int) + (m : Int) - 1 - (h : Int)) = (u : Int) := by rw [hu, IntKind.wrap_i64]; omega
        have i7 : IntKind.i64.wrap (u : Int) = (u : Int) := by rw [IntKind.wrap_i64]; omega
        by_cases hc : Lib.compareBytes xb yb < 0
        · have hd : decide (Lib.compareBytes xb yb < 0) = true := by simpa using hc
          have HN := Lib.hid (st2.out hc)
          go_wp2_with fail
          go_quiet ((go_at_call 40; exact Calls.quiet_of_same (CC.out _)))
          clear i6 i7
          go_wp2
          clear hh hu
          go_roundw
          case rel => exact ⟨i, h, rfl, rfl, by omega, by omega, by omega, HSS.out.drewN _, HL.out, HN.out⟩
          case measure => (first | (simp [intOf]; done) | (simp [intOf]; omega))
        · have hd : decide (Lib.compareBytes xb yb < 0) = false := by simpa using hc
          have HN := Lib.hid (st1.out hc)
          go_wp2_with fail
          go_quiet ((go_at_call 40; exact Calls.quiet_of_same (CC.out _)))
          clear i6 i7
          go_wp2
          clear hh hu
          go_roundw
          case rel => exact ⟨h + 1, j, by go_num, rfl, by omega, by omega, hjb, HSS.out.drewN _, HN.out, HR.out⟩
          case measure => (first | (simp [intOf]; done) | (simp [intOf]; omega))
      · obtain rfl : i = j := by omega
        obtain ⟨e, he⟩ : ∃ e : Nat, (q : Int) + (m : Int) - (i : Int) = (e : Int) := ⟨q + m - i, by omega⟩
        have e1 : m ≤ e := by have := HSR.out; omega
        have e2 : e ≤ b := by have := HSR.out; omega
        have e3 : i + e = q + m := by omega
        have e4 : q ≤ e := by omega
        have hsl := HS.out.len
        have HLO : Hid (a < i → e < b → ∀ x y, ds[i - 1]? = some x → ds[e]? = some y → leR x y) := fun h1 h2 => by
          have h9 := HSR.out
          have := HK.out.2.1 (by omega)
          rw [show q + m - i = e by omega] at this
          exact this
        have HHI : Hid (i < m → m < e → ∀ x y, ds[e - 1]? = some x → ds[i]? = some y → leR x y) := fun h1 h2 => by
          have h9 := HSR.out
          have := HK.out.2.2 (by omega)
          rw [show q + m - i - 1 = e - 1 by omega] at this
          exact this
        have HP := Lib.hid (fun ds1 (r : Rot i m e ds ds1) => show Halves ds1 a i q e b from by
          obtain ⟨p1, p2, p3, p4, p5⟩ := sym_parts leR_tr leR_rf (mid := q) (by omega) HO1.out HO2.out (by omega) (by omega) e1 e2 (by omega) HLO.out HHI.out r
          exact ⟨p1, p2, p3, p4, p5⟩)
        have HST := Lib.hid HK.out.1
        clear HK hlt
        obtain ⟨bl, hbl⟩ : ∃ bl : Bool, decide (i < m ∧ m < e) = bl := ⟨_, rfl⟩
        have HBL := Lib.hid hbl
        clear hbl
        go_upto_region 39 with (fail)
        go_cut [24, 185] (fun s24 s wx => s24 = .int .i64 (e : Int) ∧ s = .bool bl ∧ wx = wr)
        case first =>
          have hbl := HBL.out
          by_cases k1 : i < m
          · have j1 : (i : Int) < (m : Int) := by omega
            by_cases k2 : m < e
            · have j2 : (m : Int) < (e : Int) := by omega
              go_wp2_with fail
              go_meet
              exact ⟨rfl, by rw [← HBL.out]; simp [k1, k2], rfl⟩
            · have j2 : ¬ (m : Int) < (e : Int) := by omega
              go_wp2_with fail
              go_meet
              exact ⟨rfl, by rw [← HBL.out]; simp [k2], rfl⟩
          · have j1 : ¬ (i : Int) < (m : Int) := by omega
            go_wp2_with fail
            go_meet
            exact ⟨rfl, by rw [← HBL.out]; simp [k1], rfl⟩
        case rest => as_aux_lemma =>
          obtain ⟨rfl, rfl, rfl⟩ := hcut
          clear he
          go_upto_if 185 with (fail)
          go_cut [24] (fun s24 wx => s24 = .int .i64 (e : Int) ∧ ∃ ds1, Hid (ST w0 g n c ds1 wx ∧ Like a b ds ds1 ∧ Halves ds1 a i q e b))
          case first =>
            cases bl
            · go_wp2_with fail
              go_meet
              have hr : Rot i m e ds ds := by
                have := HBL.out
                simp only [decide_eq_false_iff_not] at this
                by_cases h : i = m
                · subst h; exact Rot.same_l _ _ _
                · obtain rfl : m = e := by omega
                  exact Rot.same_r _ _ _
              exact ⟨rfl, ds, HST.out, Like.refl _ _ _, HP.out _ hr⟩
            · have hk : i < m ∧ m < e := by simpa using HBL.out
              have C := Lib.hid (rotate_any w0 wc g n c i m e ds (.func (Fn.func 40) #[] #[]) HST.out hn hk.1 hk.2 (by omega))
              clear hk
              go_wp2_with fail
              refine C.out.mono ?_
              rintro ee w2 ⟨rfl, dl, hst2, hro⟩
              have HF : Hid (ST w0 g n c dl w2 ∧ Like a b ds dl ∧ Halves dl a i q e b) := ⟨hst2, (hro.like (by omega) (by omega)).mono (by omega) (by omega), HP.out _ hro⟩
              clear hst2 hro
              go_wp2_with fail
              go_meet
              exact ⟨rfl, dl, HF.out⟩
          case rest => as_aux_lemma =>
            obtain ⟨rfl, ds1, H1⟩ := hcut
            clear HP HST HBL
            obtain ⟨b2, hb2⟩ : ∃ bl : Bool, decide (a < i ∧ i < q) = bl := ⟨_, rfl⟩
            have HB2 := Lib.hid hb2
            clear hb2
            obtain ⟨wk, hwk⟩ : ∃ wk, wk = wc := ⟨_, rfl⟩
            have HWK := Lib.hid hwk
            rw [← hwk] at H1
            clear hwk
            go_upto_region 41 with (fail)
            go_cut [199] (fun s wx => s = .bool b2 ∧ wx = wk)
            case first =>
              by_cases k1 : a < i
              · have j1 : (a : Int) < (i : Int) := by omega
                by_cases k2 : i < q
                · have j2 : (i : Int) < (q : Int) := by omega
                  go_wp2_with fail
                  go_meet
                  exact ⟨by rw [← HB2.out]; simp [k1, k2], HWK.out.symm⟩
                · have j2 : ¬ (i : Int) < (q : Int) := by omega
                  go_wp2_with fail
                  go_meet
                  exact ⟨by rw [← HB2.out]; simp [k2], HWK.out.symm⟩
              · have j1 : ¬ (a : Int) < (i : Int) := by omega
                go_wp2_with fail
                go_meet
                exact ⟨by rw [← HB2.out]; simp [k1], HWK.out.symm⟩
            case rest => as_aux_lemma =>
              obtain ⟨rfl, rfl⟩ := hcut
              clear HWK
              go_upto_if 199 with (fail)
              go_cut [24] (fun s24 wx => s24 = .int .i64 (e : Int) ∧ ∃ ds2, Hid (ST w0 g n c ds2 wx ∧ Like a b ds ds2 ∧ Srt leR ds2 a q ∧ Srt leR ds2 q e ∧ Srt leR ds2 e b ∧ (∀ i j x y, a ≤ i → i < q → q ≤ j → j < b → ds2[i]? = some x → ds2[j]? = some y → leR x y)))
              case first =>
                obtain ⟨y1, y2, y3⟩ := H1.out
                cases b2
                · have hk := HB2.out
                  simp only [decide_eq_false_iff_not] at hk
                  have HF : Hid (ST w0 g n c ds1 wc ∧ Like a b ds ds1 ∧ Srt leR ds1 a q ∧ Srt leR ds1 q e ∧ Srt leR ds1 e b ∧ (∀ i j x y, a ≤ i → i < q → q ≤ j → j < b → ds1[i]? = some x → ds1[j]? = some y → leR x y)) := ⟨y1, y2, srt_triv hk (by omega) (by omega) y3.l1 y3.l2, y3.r1, y3.r2, y3.x⟩
                  clear y1 y2 y3 hk
                  go_wp2_with fail
                  go_meet
                  exact ⟨rfl, ds1, HF.out⟩
                · have hk : a < i ∧ i < q := by simpa using HB2.out
                  have C := Lib.hid (ih.out a i q ds1 wc (by omega) hk.1 hk.2 (by omega) y1 y3.l1 y3.l2)
                  have Y2 := Lib.hid y2
                  have Y3 := Lib.hid y3
                  clear hk y1 y2 y3
                  go_wp2_with fail
                  refine C.out.mono ?_
                  rintro ee w2 ⟨rfl, dl, hst2, hlk2, hso2⟩
                  have HF : Hid (ST w0 g n c dl w2 ∧ Like a b ds dl ∧ Srt leR dl a q ∧ Srt leR dl q e ∧ Srt leR dl e b ∧ (∀ i j x y, a ≤ i → i < q → q ≤ j → j < b → dl[i]? = some x → dl[j]? = some y → leR x y)) := ⟨hst2, Y2.out.trans (hlk2.mono (Nat.le_refl _) (by omega)), hso2, halves_left Y3.out e4 hlk2⟩
                  clear hst2 hlk2 hso2
                  go_wp2_with fail
                  go_meet
                  exact ⟨rfl, dl, HF.out⟩
              case rest => as_aux_lemma =>
                obtain ⟨rfl, ds2, H2⟩ := hcut
                obtain ⟨z1, z2, z3, z4, z5, z6⟩ := H2.out
                by_cases k : q < e ∧ e < b
                · have C := Lib.hid (ih.out q e b ds2 wc (by omega) k.1 k.2 (by omega) z1 z4 z5)
                  have j1 : (q : Int) < (e : Int) := by omega
                  have j2 : (e : Int) < (b : Int) := by omega
                  clear k z1 z2 z3 z4 z5 z6
                  go_wp2_with fail
                  refine C.out.mono ?_
                  rintro ee w2 ⟨rfl, dl, hst2, hlk2, hso2⟩
                  have HF := Lib.hid (show _ ∧ _ ∧ _ from ⟨hst2, hlk2, hso2⟩)
                  clear hst2 hlk2 hso2
                  go_wp2
                  go_end0
                  obtain ⟨v1, v2, v3⟩ := HF.out
                  obtain ⟨z1, z2, z3, z4, z5, z6⟩ := H2.out
                  exact ⟨rfl, dl, v1, z2.trans (v2.mono (by omega) (Nat.le_refl _)), Srt.join (z3.same fun i _ hi => v2.out i (.inl hi)) v3 (ahead_like2 z6 v2)⟩
                · have hsr := srt_triv k (by omega) (by omega) z4 z5
                  have HF : Hid (ST w0 g n c ds2 wc ∧ Like a b ds ds2 ∧ Srt leR ds2 a b) := ⟨z1, z2, Srt.join z3 hsr z6⟩
                  clear z1 z2 z3 z4 z5 z6 hsr H2
                  by_cases k1 : q < e
                  · have j1 : (q : Int) < (e : Int) := by omega
                    have j2 : ¬ (e : Int) < (b : Int) := by omega
                    clear k
                    go_wp2
                    go_end0
                    exact ⟨rfl, ds2, HF.out⟩
                  · have j1 : ¬ (q : Int) < (e : Int) := by omega
                    clear k
                    go_wp2
                    go_end0
                    exact ⟨rfl, ds2, HF.out⟩
end Go.Proofs.Ytamkbedbkjndgaa
