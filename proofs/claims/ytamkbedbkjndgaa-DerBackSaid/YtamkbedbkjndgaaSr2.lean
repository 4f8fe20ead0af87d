/-
  slices: rotate and insertionSort in place.
-/
import Derived.Test.YtamkbedbkjndgaaSr1
import Derived.Deep.QuietTactic
import Derived.BigQuiet
namespace Go.Proofs.Ytamkbedbkjndgaa
open Go.RowKit Go
set_option linter.unusedVariables false
set_option linter.unusedSimpArgs false
set_option maxRecDepth 100000
set_option maxHeartbeats 1000000 in
theorem rotate_any (w0 W : World) (g n c a m b : Nat) (ds : List Own1) (fn : Value) (hS : ST w0 g n c ds W) (hn : n ≤ 1000000000) (h1 : a < m) (h2 : m < b) (h3 : b ≤ n) :
    Calls Try.prog 56 #[.slice (some ⟨g, 0, none⟩) n c, .int .i64 (a : Int), .int .i64 (m : Int), .int .i64 (b : Int), fn] W fun e w' => e = .returned (.tuple #[]) ∧ ∃ ds', ST w0 g n c ds' w' ∧ Rot a m b ds ds' := by
  have HS := Lib.hid hS
  clear hS
  go_enter Try.func56, Try.ntmps56
  go_wp2
  go_loopw [10, 11] (fun vi vj wl => ∃ (i j : Nat) (dk : List Own1), vi = .int .i64 (i : Int) ∧ vj = .int .i64 (j : Int) ∧ 0 < i ∧ 0 < j ∧ a + i ≤ m ∧ m + j ≤ b ∧ Hid (ST w0 g n c dk wl ∧ ∀ X, Rot (m - i) m (m + j) dk X → Rot a m b ds X)) (fun vi vj _ => (intOf vi).toNat + (intOf vj).toNat)
  case atStart => exact ⟨m - a, b - m, ds, by congr 1; omega, by congr 1; omega, by omega, by omega, by omega, by omega, HS.out, fun X h => by rw [show m - (m - a) = a by omega, show m + (b - m) = b by omega] at h; exact h⟩
  case round =>
    obtain ⟨i, j, dk, rfl, rfl, hi0, hj0, hia, hjb, HK⟩ := hrel
    obtain ⟨p, hp⟩ : ∃ p : Nat, (m : Int) - (i : Int) = (p : Int) := ⟨m - i, by omega⟩
    have hpm : m - i = p := by omega
    obtain ⟨hs, hx⟩ := HK.out
    rw [hpm] at hx
    have HX := Lib.hid hx
    have hpi : p + i = m := by omega
    have HP := Lib.hid hpi
    clear HK hx hpm hpi
    by_cases e : i = j
    · subst e
      have C := Lib.hid (swapRange_any w0 wr g n c p m i dk fn hs hn (by omega) (by omega) (by omega))
      clear hs
      go_wp2_with fail
      refine C.out.mono ?_
      rintro e w2 ⟨rfl, dl, hs2, hsw⟩
      have HF := Lib.hid (show _ ∧ _ from ⟨hs2, HX.out dl (rot_last HP.out hsw)⟩)
      clear hs2 hsw
      go_wp2
      go_end0
      exact ⟨rfl, dl, HF.out⟩
    · have t1 : ((i : Int) != (j : Int)) = true := by simp; omega
      by_cases hlt : j < i
      · have t2 : (j : Int) < (i : Int) := by omega
        have C := Lib.hid (swapRange_any w0 wr g n c p m j dk fn hs hn (by omega) (by omega) (by omega))
        clear hs e
        go_wp2_with fail
        refine C.out.mono ?_
        rintro e w2 ⟨rfl, dl, hs2, hsw⟩
        have HF := Lib.hid (show ST w0 g n c dl w2 ∧ ∀ X, Rot (m - (i - j)) m (m + j) dl X → Rot a m b ds X from ⟨hs2, fun X hr => HX.out X (rot_more_l HP.out hlt hsw (by rw [show p + j = m - (i - j) by omega]; exact hr))⟩)
        clear hs2 hsw
        go_wp2
        go_roundw
        case rel => exact ⟨i - j, j, dl, by congr 1; omega, rfl, by omega, hj0, by omega, hjb, HF.out⟩
        case measure => (first | (simp [intOf]; done) | (simp [intOf]; omega))
      · have t2 : ¬ (j : Int) < (i : Int) := by omega
        obtain ⟨q, hq⟩ : ∃ q : Nat, (m : Int) + (j : Int) - (i : Int) = (q : Int) := ⟨m + j - i, by omega⟩
        have C := Lib.hid (swapRange_any w0 wr g n c p q i dk fn hs hn (by omega) (by omega) (by omega))
        have HQ := Lib.hid (show q + i = m + j by omega)
        have HIJ := Lib.hid (show i < j by omega)
        clear hs e
        go_wp2_with fail
        refine C.out.mono ?_
        rintro e w2 ⟨rfl, dl, hs2, hsw⟩
        have HF := Lib.hid (show ST w0 g n c dl w2 ∧ ∀ X, Rot (m - i) m (m + (j - i)) dl X → Rot a m b ds X from ⟨hs2, fun X hr => HX.out X (rot_more_r HP.out HQ.out HIJ.out hsw (by rw [show p = m - i by omega]; exact hr))⟩)
        clear hs2 hsw
        have hij := HIJ.out
        go_wp2
        go_roundw
        case rel => exact ⟨i, j - i, dl, rfl, by congr 1; omega, hi0, by omega, hia, by omega, HF.out⟩
        case measure => (first | (simp [intOf]; done) | (simp [intOf]; omega))
theorem cmp_q (x y : Own1) (w : World) (h1 : RB w x.1 x.2.1 x.2.2.2) (h2 : RB w y.1 y.2.1 y.2.2.2) : Calls Try.prog 40 #[.slice x.1 x.2.1 x.2.2.1, .slice y.1 y.2.1 y.2.2.1] w fun e w' => e = .returned (.int .i64 (Lib.compareBytes x.2.2.2 y.2.2.2)) ∧ w' = w :=
  (compare_any x.1 y.1 x.2.1 x.2.2.1 y.2.1 y.2.2.1 x.2.2.2 y.2.2.2 w h1 h2).mono fun e w' h => ⟨h.1, h.2.symm⟩
set_option maxHeartbeats 2000000 in
theorem insertion_any (w0 W : World) (g n c a b : Nat) (ds : List Own1) (hS : ST w0 g n c ds W) (hn : n ≤ 1000000000) (h1 : a ≤ b) (h3 : b ≤ n) :
    Calls Try.prog 54 #[.slice (some ⟨g, 0, none⟩) n c, .int .i64 (a : Int), .int .i64 (b : Int), .func (Fn.func 40) #[] #[]] W fun e w' => e = .returned (.tuple #[]) ∧ ∃ ds', ST w0 g n c ds' w' ∧ Like a b ds ds' ∧ Srt leR ds' a b := by
  have HS := Lib.hid hS
  clear hS
  go_enter Try.func54, Try.ntmps54
  go_wp2
  go_loopw [8] (fun vi wl => ∃ (i : Nat) (dk : List Own1), vi = .int .i64 (i : Int) ∧ a < i ∧ i ≤ b + 1 ∧ Hid (ST w0 g n c dk wl ∧ Like a b ds dk ∧ Srt leR dk a i)) (fun vi _ => b + 1 - (intOf vi).toNat)
  case atStart => exact ⟨a + 1, ds, by go_num, by omega, by omega, HS.out, Like.refl _ _ _, Srt.one (Nat.le_refl _)⟩
  case round =>
    obtain ⟨i, dk, rfl, hai, hib, HK⟩ := hrel
    by_cases hlt : i < b
    · go_wp2
      go_loopw [9] (fun vj wl => ∃ (j : Nat) (dj : List Own1), vj = .int .i64 (j : Int) ∧ a ≤ j ∧ j ≤ i ∧ Hid (ST w0 g n c dj wl ∧ Like a b ds dj ∧ InJ dj a i j)) (fun vj _ => (intOf vj).toNat)
      case atStart => exact ⟨i, dk, rfl, by omega, Nat.le_refl _, HK.out.1, HK.out.2.1, inj_start HK.out.2.2⟩
      case round =>
        obtain ⟨j, dj, rfl, haj, hji, HJ⟩ := hrel
        clear HK
        by_cases hja : a < j
        · obtain ⟨q, rfl⟩ : ∃ q, j = q + 1 := ⟨j - 1, by omega⟩
          obtain ⟨hs, hlk, hin⟩ := HJ.out
          obtain ⟨x, hx⟩ := hs.get (show q + 1 < n by omega)
          obtain ⟨y, hy⟩ := hs.get (show q < n by omega)
          have c1 := hs.cell hx
          have c2 := hs.cell hy
          have f1 := hs.free (q + 1)
          have f2 := hs.free q
          have c3 := hs.cell2 (i := q + 1) hy (by omega) (.slice y.1 y.2.1 y.2.2.1)
          have CC := Lib.hid (fun k => cmp_q x y (wr.drewN k) (hs.rb hx (hs.drewN k).bel) (hs.rb hy (hs.drewN k).bel))
          have sw := fun k => (hs.drewN k).swap hx hy
          have HSW := Lib.hid sw
          have HL := Lib.hid (hlk.trans (swap_like dj a b (q + 1) q x y hx hy (by omega) (by omega) (by omega) (by omega)))
          have HSS := Lib.hid hs
          have HLK := Lib.hid hlk
          have st1 := Lib.hid (fun h => inj_step hin (by omega) hji hy hx h)
          have st2 := Lib.hid (fun h => inj_stop hin (by omega) hy hx h)
          have hz := Lib.hid (fun h => @leR_of_lt x y h)
          have hz2 := Lib.hid (fun h => @leR_of_not y x h)
          clear hs hlk hin hx hy sw HJ
          obtain ⟨xa, xn, xc, xb⟩ := x
          obtain ⟨ya, yn, yc, yb⟩ := y
          simp only at c1 c2 c3 CC HSW hz hz2
          have i1 : (q : Int) + 1 < (n : Int) := by omega
          have i2 : (q : Int) < (n : Int) := by omega
          have i3 : ((q : Int) + 1).toNat = q + 1 := by omega
          have i4 : (0 : Int) ≤ (q : Int) + 1 := by omega
          have i5 : q < n := by omega
          have w1 : IntKind.i64.wrap ((q : Int) + 1 - 1) = (q : Int) := by rw [IntKind.wrap_i64]; omega
          have w2 : IntKind.i64.wrap (q : Int) = (q : Int) := by rw [IntKind.wrap_i64]; omega
          have i6 : (0 : Int) ≤ (q : Int) := by omega
          have i7 : ((q : Int)).toNat = q := by omega
          have i8 : (a : Int) < (q : Int) + 1 := by omega
          have i9 : decide ((q : Int) + 1 > (a : Int)) = true := by simp; omega
          by_cases hc : Lib.compareBytes xb yb < 0
          · have hd : decide (Lib.compareBytes xb yb < 0) = true := by simpa using hc
            have HN := Lib.hid (st1.out (hz.out hc))
            go_wp2_with fail
            go_quiet ((go_at_call 40; exact Calls.quiet_of_same (CC.out _)))
            clear i9
            go_wp2_with fail
            obtain ⟨nq', hnq⟩ : ∃ k, k = nq := ⟨nq, rfl⟩
            have c1' : (wr.drewN nq).cell? ⟨g, q + 1, none⟩ = some (.slice xa xn xc) := c1
            have c2' : (wr.drewN nq).cell? ⟨g, q, none⟩ = some (.slice ya yn yc) := c2
            have f1' : (wr.drewN nq).frozen? ⟨g, q + 1, none⟩ = false := f1
            have f2' : (wr.drewN nq).frozen? ⟨g, q, none⟩ = false := f2
            have c3' : ((wr.drewN nq).setCell ⟨g, q + 1, none⟩ (.slice ya yn yc)).cell? ⟨g, q, none⟩ = some (.slice ya yn yc) := c3
            have HS3 := Lib.hid (HSW.out nq)
            clear c1 c2 f1 f2 c3 hnq
            generalize wr.drewN nq = wq at c1' c2' f1' f2' c3' HS3 ⊢
            go_region
            all_goals
              clear w1 w2 i3 i7
              go_wp2
              go_roundw
              case rel => exact ⟨q, _, by go_num, by omega, by omega, HS3.out.drew, HL.out, HN.out⟩
              case measure => (first | (simp [intOf]; done) | (simp [intOf]; omega))
          · have hd : decide (Lib.compareBytes xb yb < 0) = false := by simpa using hc
            have HN := Lib.hid (st2.out (hz2.out hc))
            go_wp2_with fail
            go_quiet ((go_at_call 40; exact Calls.quiet_of_same (CC.out _)))
            clear w1 w2 i3 i7 i9
            go_wp2
            go_roundw
            case rel => exact ⟨i + 1, dj, by go_num, by omega, by omega, HSS.out.drewN _, HLK.out, HN.out⟩
            case measure => (first | (simp [intOf]; done) | (simp [intOf]; omega))
        · obtain rfl : j = a := by omega
          have hd : decide ((j : Int) > (j : Int)) = false := by simp
          go_wp2_with fail
          go_quiet (fail)
          go_wp2
          go_roundw
          case rel => exact ⟨i + 1, dj, by go_num, by omega, by omega, HJ.out.1.drewN _, HJ.out.2.1, inj_first HJ.out.2.2⟩
          case measure => (first | (simp [intOf]; done) | (simp [intOf]; omega))
    · go_wp2
      go_end0
      exact ⟨rfl, dk, HK.out.1, HK.out.2.1, HK.out.2.2.sub (Nat.le_refl _) (by omega)⟩
end Go.Proofs.Ytamkbedbkjndgaa
namespace Go.Proofs.Ytamkbedbkjndgaa
open Go.RowKit Go
set_option linter.unusedVariables false
set_option linter.unusedSimpArgs false
set_option maxRecDepth 100000
theorem mid_wrap (a b : Nat) (h : a + b ≤ 2000000000) : ∃ q : Nat, (a : Int) + (b : Int) = (q : Int) ∧ q = a + b := ⟨a + b, by omega, rfl⟩
set_option maxHeartbeats 2000000 in
theorem sym_front (w0 W : World) (g n c a m b : Nat) (ds : List Own1) (hS : ST w0 g n c ds W) (hn : n ≤ 1000000000) (ham : m = a + 1) (h2 : m < b) (h3 : b ≤ n) (hs : Srt leR ds m b) :
    Calls Try.prog 55 #[.slice (some ⟨g, 0, none⟩) n c, .int .i64 (a : Int), .int .i64 (m : Int), .int .i64 (b : Int), .func (Fn.func 40) #[] #[]] W fun e w' => e = .returned (.tuple #[]) ∧ ∃ ds', ST w0 g n c ds' w' ∧ Like a b ds ds' ∧ Srt leR ds' a b := by
  have HS := Lib.hid hS
  have HO := Lib.hid hs
  have HM := Lib.hid ham
  have t1 : ((m : Int) - (a : Int) == 1) = true := by simp; omega
  have i0 : a < n := by omega
  have i1 : (a : Int) < (n : Int) := by omega
  have i2 : a < m := by omega
  clear hS hs ham
  go_enter Try.func55, Try.ntmps55
  go_wp2
  clear t1
  go_loopw [10, 11] (fun vi vj wl => ∃ (i j : Nat), vi = .int .i64 (i : Int) ∧ vj = .int .i64 (j : Int) ∧ m ≤ i ∧ i ≤ j ∧ j ≤ b ∧ Hid (ST w0 g n c ds wl ∧ (m < i → ∀ x y, ds[i - 1]? = some x → ds[a]? = some y → leR x y) ∧ (j < b → ∀ x y, ds[a]? = some x → ds[j]? = some y → leR x y))) (fun vi vj _ => (intOf vj).toNat - (intOf vi).toNat)
  case atStart => exact ⟨m, b, rfl, rfl, Nat.le_refl _, by omega, Nat.le_refl _, HS.out, fun h => absurd h (Nat.lt_irrefl _), fun h => absurd h (Nat.lt_irrefl _)⟩
  case round =>
    obtain ⟨i, j, rfl, rfl, hmi, hij, hjb, HK⟩ := hrel
    by_cases hlt : i < j
    · obtain ⟨h, hh⟩ : ∃ h : Nat, ((i : Int) + (j : Int)) / 2 = (h : Int) := ⟨(i + j) / 2, by omega⟩
      have hb1 : i ≤ h := by omega
      have hb2 : h < j := by omega
      obtain ⟨hst, hl, hr⟩ := HK.out
      obtain ⟨x, hx⟩ := hst.get (show h < n by omega)
      obtain ⟨y, hy⟩ := hst.get (show a < n by omega)
      have c1 := hst.cell hx
      have c2 := hst.cell hy
      have CC := Lib.hid (fun k => cmp_q x y (wr.drewN k) (hst.rb hx (hst.drewN k).bel) (hst.rb hy (hst.drewN k).bel))
      have HSS := Lib.hid hst
      have st1 := Lib.hid (fun (hc : Lib.compareBytes x.2.2.2 y.2.2.2 < 0) (_ : m < h + 1) u v (hu : ds[h + 1 - 1]? = some u) (hv : ds[a]? = some v) => show leR u v from by
        rw [Nat.add_sub_cancel, hx] at hu
        rw [hy] at hv
        cases hu; cases hv
        exact leR_of_lt hc)
      have st2 := Lib.hid (fun (hc : ¬ Lib.compareBytes x.2.2.2 y.2.2.2 < 0) (_ : h < b) u v (hu : ds[a]? = some u) (hv : ds[h]? = some v) => show leR u v from by
        rw [hy] at hu
        rw [hx] at hv
        cases hu; cases hv
        exact leR_of_not hc)
      have HL := Lib.hid hl
      have HR := Lib.hid hr
      clear hst hl hr hx hy HK
      obtain ⟨xa, xn, xc, xb⟩ := x
      obtain ⟨ya, yn, yc, yb⟩ := y
      simp only at c1 c2 CC st1 st2
      have i3 : (h : Int) < (n : Int) := by omega
      have i4 : h < n := by omega
      by_cases hc : Lib.compareBytes xb yb < 0
      · have hd : decide (Lib.compareBytes xb yb < 0) = true := by simpa using hc
        have HN := Lib.hid (st1.out hc)
        go_wp2_with fail
        go_quiet ((go_at_call 40; exact Calls.quiet_of_same (CC.out _)))
        go_wp2
        clear hh
        go_roundw
        case rel => exact ⟨h + 1, j, by go_num, rfl, by omega, by omega, hjb, HSS.out.drewN _, HN.out, HR.out⟩
        case measure => (first | (simp [intOf]; done) | (simp [intOf]; omega))
      · have hd : decide (Lib.compareBytes xb yb < 0) = false := by simpa using hc
        have HN := Lib.hid (st2.out hc)
        go_wp2_with fail
        go_quiet ((go_at_call 40; exact Calls.quiet_of_same (CC.out _)))
        go_wp2
        clear hh
        go_roundw
        case rel => exact ⟨i, h, rfl, rfl, by omega, by omega, by omega, HSS.out.drewN _, HL.out, HN.out⟩
        case measure => (first | (simp [intOf]; done) | (simp [intOf]; omega))
    · obtain rfl : i = j := by omega
      go_wp2
      go_loopw [13] (fun vk wl => ∃ (k : Nat) (dk : List Own1), vk = .int .i64 (k : Int) ∧ a ≤ k ∧ k + 1 ≤ i ∧ Hid (ST w0 g n c dk wl ∧ Rot a (a + 1) (k + 1) ds dk)) (fun vk _ => i - (intOf vk).toNat)
      case atStart => exact ⟨a, ds, rfl, Nat.le_refl _, by omega, HK.out.1, Rot.same_r _ _ _⟩
      case round =>
        obtain ⟨k, dk, rfl, hak, hki, HJ⟩ := hrel
        by_cases hlk : k + 1 < i
        · obtain ⟨hst, hro⟩ := HJ.out
          obtain ⟨x, hx⟩ := hst.get (show k < n by omega)
          obtain ⟨y, hy⟩ := hst.get (show k + 1 < n by omega)
          have c1 := hst.cell hx
          have c2 := hst.cell hy
          have f1 := hst.free k
          have f2 := hst.free (k + 1)
          have c3 := hst.cell2 (i := k) hy (by omega) (.slice y.1 y.2.1 y.2.2.1)
          have HSW := Lib.hid (hst.swap hx hy)
          have HRO := Lib.hid (rot_front_step hak hro hx hy)
          clear hst hro hx hy HJ
          obtain ⟨xa, xn, xc, xb⟩ := x
          obtain ⟨ya, yn, yc, yb⟩ := y
          simp only at c1 c2 c3 HSW
          have i3 : (k : Int) + 1 < (n : Int) := by omega
          have i4 : (k : Int) < (n : Int) := by omega
          have i5 : k < n := by omega
          have i6 : (0 : Int) ≤ (k : Int) + 1 := by omega
          have i7 : ((k : Int) + 1).toNat = k + 1 := by omega
          have i8 : IntKind.i64.wrap ((k : Int) + 1) = (k : Int) + 1 := by rw [IntKind.wrap_i64]; omega
          have i9 : (k : Int) < (i : Int) - 1 := by omega
          go_wp2_with fail
          go_region
          all_goals
            clear i7 i8
            go_wp2
            go_roundw
            case rel => exact ⟨k + 1, _, by go_num, by omega, by omega, HSW.out.drew, HRO.out⟩
            case measure => (first | (simp [intOf]; done) | (simp [intOf]; omega))
        · have i9 : ¬ (k : Int) < (i : Int) - 1 := by omega
          have HI := Lib.hid (show i = k + 1 by omega)
          go_wp2
          refine bodyPost_ret (results_none rfl _ _ _) rfl ?_
          obtain rfl := HI.out
          obtain ⟨_, hl, hr⟩ := HK.out
          obtain ⟨hst, hro⟩ := HJ.out
          have hm := HM.out
          have hlen := HS.out.len
          refine ⟨rfl, dk, hst, (hro.like (by omega) (by omega)).mono (Nat.le_refl _) (by omega), ins_front (i := k + 1) (by omega) (by omega) (by omega) (by rw [← hm]; exact HO.out) (fun h => hl (by omega)) (fun h => hr h) hro⟩
end Go.Proofs.Ytamkbedbkjndgaa
namespace Go.Proofs.Ytamkbedbkjndgaa
open Go.RowKit Go
set_option linter.unusedVariables false
set_option linter.unusedSimpArgs false
set_option maxRecDepth 100000
set_option maxHeartbeats 2000000 in
theorem sym_back (w0 W : World) (g n c a m b : Nat) (ds : List Own1) (hS : ST w0 g n c ds W) (hn : n ≤ 1000000000) (ham : a + 1 < m) (hbm : b = m + 1) (h3 : b ≤ n) (hs : Srt leR ds a m) :
    Calls Try.prog 55 #[.slice (some ⟨g, 0, none⟩) n c, .int .i64 (a : Int), .int .i64 (m : Int), .int .i64 (b : Int), .func (Fn.func 40) #[] #[]] W fun e w' => e = .returned (.tuple #[]) ∧ ∃ ds', ST w0 g n c ds' w' ∧ Like a b ds ds' ∧ Srt leR ds' a b := by
  have HS := Lib.hid hS
  have HO := Lib.hid hs
  have HM := Lib.hid hbm
  have t1 : ((m : Int) - (a : Int) == 1) = false := by simp; omega
  have t2 : ((b : Int) - (m : Int) == 1) = true := by simp; omega
  have i0 : m < n := by omega
  have i1 : (m : Int) < (n : Int) := by omega
  have i2 : m < b := by omega
  clear hS hs hbm
  go_enter Try.func55, Try.ntmps55
  go_wp2
  clear t1 t2
  go_loopw [14, 15] (fun vi vj wl => ∃ (i j : Nat), vi = .int .i64 (i : Int) ∧ vj = .int .i64 (j : Int) ∧ a ≤ i ∧ i ≤ j ∧ j ≤ m ∧ Hid (ST w0 g n c ds wl ∧ (a < i → ∀ x y, ds[i - 1]? = some x → ds[m]? = some y → leR x y) ∧ (j < m → ∀ x y, ds[m]? = some x → ds[j]? = some y → leR x y))) (fun vi vj _ => (intOf vj).toNat - (intOf vi).toNat)
  case atStart => exact ⟨a, m, rfl, rfl, Nat.le_refl _, by omega, Nat.le_refl _, HS.out, fun h => absurd h (Nat.lt_irrefl _), fun h => absurd h (Nat.lt_irrefl _)⟩
  case round =>
    obtain ⟨i, j, rfl, rfl, hmi, hij, hjb, HK⟩ := hrel
    by_cases hlt : i < j
    · obtain ⟨h, hh⟩ : ∃ h : Nat, ((i : Int) + (j : Int)) / 2 = (h : Int) := ⟨(i + j) / 2, by omega⟩
      have hb1 : i ≤ h := by omega
      have hb2 : h < j := by omega
      obtain ⟨hst, hl, hr⟩ := HK.out
      obtain ⟨x, hx⟩ := hst.get (show m < n by omega)
      obtain ⟨y, hy⟩ := hst.get (show h < n by omega)
      have c1 := hst.cell hx
      have c2 := hst.cell hy
      have CC := Lib.hid (fun k => cmp_q x y (wr.drewN k) (hst.rb hx (hst.drewN k).bel) (hst.rb hy (hst.drewN k).bel))
      have HSS := Lib.hid hst
      have st1 := Lib.hid (fun (hc : ¬ Lib.compareBytes x.2.2.2 y.2.2.2 < 0) (_ : a < h + 1) u v (hu : ds[h + 1 - 1]? = some u) (hv : ds[m]? = some v) => show leR u v from by
        rw [Nat.add_sub_cancel, hy] at hu
        rw [hx] at hv
        cases hu; cases hv
        exact leR_of_not hc)
      have st2 := Lib.hid (fun (hc : Lib.compareBytes x.2.2.2 y.2.2.2 < 0) (_ : h < m) u v (hu : ds[m]? = some u) (hv : ds[h]? = some v) => show leR u v from by
        rw [hx] at hu
        rw [hy] at hv
        cases hu; cases hv
        exact leR_of_lt hc)
      have HL := Lib.hid hl
      have HR := Lib.hid hr
      clear hst hl hr hx hy HK
      obtain ⟨xa, xn, xc, xb⟩ := x
      obtain ⟨ya, yn, yc, yb⟩ := y
      simp only at c1 c2 CC st1 st2
      have i3 : (h : Int) < (n : Int) := by omega
      have i4 : h < n := by omega
      by_cases hc : Lib.compareBytes xb yb < 0
      · have hd : decide (Lib.compareBytes xb yb < 0) = true := by simpa using hc
        have HN := Lib.hid (st2.out hc)
        go_wp2_with fail
        go_quiet ((go_at_call 40; exact Calls.quiet_of_same (CC.out _)))
        go_wp2
        clear hh
        go_roundw
        case rel => exact ⟨i, h, rfl, rfl, by omega, by omega, by omega, HSS.out.drewN _, HL.out, HN.out⟩
        case measure => (first | (simp [intOf]; done) | (simp [intOf]; omega))
      · have hd : decide (Lib.compareBytes xb yb < 0) = false := by simpa using hc
        have HN := Lib.hid (st1.out hc)
        go_wp2_with fail
        go_quiet ((go_at_call 40; exact Calls.quiet_of_same (CC.out _)))
        go_wp2
        clear hh
        go_roundw
        case rel => exact ⟨h + 1, j, by go_num, rfl, by omega, by omega, hjb, HSS.out.drewN _, HN.out, HR.out⟩
        case measure => (first | (simp [intOf]; done) | (simp [intOf]; omega))
    · obtain rfl : i = j := by omega
      go_wp2
      go_loopw [17] (fun vk wl => ∃ (k : Nat) (dk : List Own1), vk = .int .i64 (k : Int) ∧ i ≤ k ∧ k ≤ m ∧ Hid (ST w0 g n c dk wl ∧ Rot k m (m + 1) ds dk)) (fun vk _ => (intOf vk).toNat)
      case atStart => exact ⟨m, ds, rfl, by omega, Nat.le_refl _, HK.out.1, Rot.same_l _ _ _⟩
      case round =>
        obtain ⟨k, dk, rfl, hik, hkm, HJ⟩ := hrel
        by_cases hlk : i < k
        · obtain ⟨k, rfl⟩ : ∃ q, k = q + 1 := ⟨k - 1, by omega⟩
          obtain ⟨hst, hro⟩ := HJ.out
          obtain ⟨x, hx⟩ := hst.get (show k + 1 < n by omega)
          obtain ⟨y, hy⟩ := hst.get (show k < n by omega)
          have c1 := hst.cell hx
          have c2 := hst.cell hy
          have f1 := hst.free k
          have f2 := hst.free (k + 1)
          have c3 := hst.cell2 (i := k + 1) hy (by omega) (.slice y.1 y.2.1 y.2.2.1)
          have HSW := Lib.hid (hst.swap hx hy)
          have HRO := Lib.hid (rot_back_step hkm hro hx hy)
          clear hst hro hx hy HJ
          obtain ⟨xa, xn, xc, xb⟩ := x
          obtain ⟨ya, yn, yc, yb⟩ := y
          simp only at c1 c2 c3 HSW
          have i3 : (k : Int) + 1 < (n : Int) := by omega
          have i4 : (k : Int) < (n : Int) := by omega
          have i5 : k < n := by omega
          have i6 : (0 : Int) ≤ (k : Int) + 1 := by omega
          have i7 : ((k : Int) + 1).toNat = k + 1 := by omega
          have i8 : IntKind.i64.wrap ((k : Int) + 1 - 1) = (k : Int) := by rw [IntKind.wrap_i64]; omega
          have i10 : IntKind.i64.wrap (k : Int) = (k : Int) := by rw [IntKind.wrap_i64]; omega
          have i9 : (i : Int) < (k : Int) + 1 := by omega
          go_wp2_with fail
          go_region
          all_goals
            clear i7 i8 i10
            go_wp2
            go_roundw
            case rel => exact ⟨k, _, by go_num, by omega, by omega, HSW.out.drew, HRO.out⟩
            case measure => (first | (simp [intOf]; done) | (simp [intOf]; omega))
        · have i9 : ¬ (i : Int) < (k : Int) := by omega
          have HI := Lib.hid (show i = k by omega)
          go_wp2
          refine bodyPost_ret (results_none rfl _ _ _) rfl ?_
          obtain rfl := HI.out
          obtain ⟨_, hl, hr⟩ := HK.out
          obtain ⟨hst, hro⟩ := HJ.out
          have hm := HM.out
          have hlen := HS.out.len
          refine ⟨rfl, dk, hst, (hro.like (by omega) (by omega)).mono (by omega) (by omega), ?_⟩
          rw [hm]
          exact ins_back (i := i) (by omega) (by omega) (by omega) HO.out (fun h => hl h) (fun h => hr h) hro
end Go.Proofs.Ytamkbedbkjndgaa
