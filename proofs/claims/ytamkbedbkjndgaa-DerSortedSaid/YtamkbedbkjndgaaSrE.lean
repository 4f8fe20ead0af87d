/-
  slices: symMerge, its second case.
-/
import Derived.Test.YtamkbedbkjndgaaSrD
namespace Go.Proofs.Ytamkbedbkjndgaa
open Go.RowKit Go
set_option linter.unusedVariables false
set_option linter.unusedSimpArgs false
set_option maxRecDepth 100000
set_option maxHeartbeats 2000000 in
theorem sym_back (w0 W : World) (g n c a m b : Nat) (ds : List Own1) (hS : ST w0 g n c ds W) (hn : n ≤ 1000000000) (ham : a + 1 < m) (hbm : b = m + 1) (h3 : b ≤ n) (hs : Srt leR ds a m) :
    Calls Try.prog 55 #[.slice (some ⟨g, 0, none⟩) n c, .int .i64 (a : Int), .int .i64 (m : Int), .int .i64 (b : Int), .func (Fn.func 40) #[] #[]] W fun e w' => e = .returned (.tuple #[]) ∧ ∃ ds', ST w0 g n c ds' w' ∧ Like a b ds ds' ∧ Srt leR ds' a b := by
  have HS := Lib.hid hS
  have HO := Lib.hid hs
  have HM := Lib.hid hbm
  have t1 : ((m : Int) - (a : Int) == 1) = false := by simp; omega
  have t2 : ((b : Int) - (m : Int) == 1) = true := by simp; omega
  have i0 : m < n := by omega
  have i1 : (m : Int) < (n : Int) := by omega
  have i2 : m < b := by omega
  clear hS hs hbm
  go_enter Try.func55, Try.ntmps55
  go_wp2
  clear t1 t2
  go_loopw [14, 15] (fun vi vj wl => ∃ (i j : Nat), vi = .int .i64 (i : Int) ∧ vj = .int .i64 (j : Int) ∧ a ≤ i ∧ i ≤ j ∧ j ≤ m ∧ Hid (ST w0 g n c ds wl ∧ (a < i → ∀ x y, ds[i - 1]? = some x → ds[m]? = some y → leR x y) ∧ (j < m → ∀ x y, ds[m]? = some x → ds[j]? = some y → leR x y))) (fun vi vj _ => (intOf vj).toNat - (intOf vi).toNat)
  case atStart => exact ⟨a, m, rfl, rfl, Nat.le_refl _, by omega, Nat.le_refl _, HS.out, fun h => absurd h (Nat.lt_irrefl _), fun h => absurd h (Nat.lt_irrefl _)⟩
  case round =>
    obtain ⟨i, j, rfl, rfl, hmi, hij, hjb, HK⟩ := hrel
    by_cases hlt : i < j
    · obtain ⟨h, hh⟩ : ∃ h : Nat, ((i : Int) + (j : Int)) / 2 = (h : Int) := ⟨(i + j) / 2, by omega⟩
      have hb1 : i ≤ h := by omega
      have hb2 : h < j := by omega
      obtain ⟨hst, hl, hr⟩ := HK.out
      obtain ⟨x, hx⟩ := hst.get (show m < n by omega)
      obtain ⟨y, hy⟩ := hst.get (show h < n by omega)
      have c1 := hst.cell hx
      have c2 := hst.cell hy
      have CC := Lib.hid (fun k => cmp_q x y (wr.drewN k) (hst.rb hx (hst.drewN k).bel) (hst.rb hy (hst.drewN k).bel))
      have HSS := Lib.hid hst
      have st1 := Lib.hid (fun (hc : ¬ Lib.compareBytes x.2.2.2 y.2.2.2 < 0) (_ : a < h + 1) u v (hu : ds[h + 1 - 1]? = some u) (hv : ds[m]? = some v) => show leR u v from by
        rw [Nat.add_sub_cancel, hy] at hu
        rw [hx] at hv
        cases hu; cases hv
        exact leR_of_not hc)
      have st2 := Lib.hid (fun (hc : Lib.compareBytes x.2.2.2 y.2.2.2 < 0) (_ : h < m) u v (hu : ds[m]? = some u) (hv : ds[h]? = some v) => show leR u v from by
        rw [hx] at hu
        rw [hy] at hv
        cases hu; cases hv
        exact leR_of_lt hc)
      have HL := Lib.hid hl
      have HR := Lib.hid hr
      clear hst hl hr hx hy HK
      obtain ⟨xa, xn, xc, xb⟩ := x
      obtain ⟨ya, yn, yc, yb⟩ := y
      simp only at c1 c2 CC st1 st2
      have i3 : (h : Int) < (n : Int) := by omega
      have i4 : h < n := by omega
      by_cases hc : Lib.compareBytes xb yb < 0
      · have hd : decide (Lib.compareBytes xb yb < 0) = true := by simpa using hc
        have HN := Lib.hid (st2.out hc)
        go_wp2_with fail
        go_quiet ((go_at_call 40; exact Calls.quiet_of_same (CC.out _)))
        go_wp2
        clear hh
        go_roundw
        case rel => exact ⟨i, h, rfl, rfl, by omega, by omega, by omega, HSS.out.drewN _, HL.out, HN.out⟩
        case measure => (first | (simp [intOf]; done) | (simp [intOf]; omega))
      · have hd : decide (Lib.compareBytes xb yb < 0) = false := by simpa using hc
        have HN := Lib.hid (st1.out hc)
        go_wp2_with fail
        go_quiet ((go_at_call 40; exact Calls.quiet_of_same (CC.out _)))
        go_wp2
        clear hh
        go_roundw
        case rel => exact ⟨h + 1, j, by go_num, rfl, by omega, by omega, hjb, HSS.out.drewN _, HN.out, HR.out⟩
        case measure => (first | (simp [intOf]; done) | (simp [intOf]; omega))
    · obtain rfl : i = j := by omega
      go_wp2
      go_loopw [17] (fun vk wl => ∃ (k : Nat) (dk : List Own1), vk = .int .i64 (k : Int) ∧ i ≤ k ∧ k ≤ m ∧ Hid (ST w0 g n c dk wl ∧ Rot k m (m + 1) ds dk)) (fun vk _ => (intOf vk).toNat)
      case atStart => exact ⟨m, ds, rfl, by omega, Nat.le_refl _, HK.out.1, Rot.same_l _ _ _⟩
      case round =>
        obtain ⟨k, dk, rfl, hik, hkm, HJ⟩ := hrel
        by_cases hlk : i < k
        · obtain ⟨k, rfl⟩ : ∃ q, k = q + 1 := ⟨k - 1, by omega⟩
          obtain ⟨hst, hro⟩ := HJ.out
          obtain ⟨x, hx⟩ := hst.get (show k + 1 < n by omega)
          obtain ⟨y, hy⟩ := hst.get (show k < n by omega)
          have c1 := hst.cell hx
          have c2 := hst.cell hy
          have f1 := hst.free k
          have f2 := hst.free (k + 1)
          have c3 := hst.cell2 (i := k + 1) hy (by omega) (.slice y.1 y.2.1 y.2.2.1)
          have HSW := Lib.hid (hst.swap hx hy)
          have HRO := Lib.hid (rot_back_step hkm hro hx hy)
          clear hst hro hx hy HJ
          obtain ⟨xa, xn, xc, xb⟩ := x
          obtain ⟨ya, yn, yc, yb⟩ := y
          simp only at c1 c2 c3 HSW
          have i3 : (k : Int) + 1 < (n : Int) := by omega
          have i4 : (k : Int) < (n : Int) := by omega
          have i5 : k < n := by omega
          have i6 : (0 : Int) ≤ (k : Int) + 1 := by omega
          have i7 : ((k : Int) + 1).toNat = k + 1 := by omega
          have i8 : IntKind.i64.wrap ((k : Int) + 1 - 1) = (k : Int) := by rw [IntKind.wrap_i64]; omega
          have i10 : IntKind.i64.wrap (k : Int) = (k : Int) := by rw [IntKind.wrap_i64]; omega
          have i9 : (i : Int) < (k : Int) + 1 := by omega
          go_wp2_with fail
          go_region
          all_goals
            clear i7 i8 i10
            go_wp2
            go_roundw
            case rel => exact ⟨k, _, by go_num, by omega, by omega, HSW.out.drew, HRO.out⟩
            case measure => (first | (simp [intOf]; done) | (simp [intOf]; omega))
        · have i9 : ¬ (i : Int) < (k : Int) := by omega
          have HI := Lib.hid (show i = k by omega)
          go_wp2
          refine bodyPost_ret (results_none rfl _ _ _) rfl ?_
          obtain rfl := HI.out
          obtain ⟨_, hl, hr⟩ := HK.out
          obtain ⟨hst, hro⟩ := HJ.out
          have hm := HM.out
          have hlen := HS.out.len
          refine ⟨rfl, dk, hst, (hro.like (by omega) (by omega)).mono (by omega) (by omega), ?_⟩
          rw [hm]
          exact ins_back (i := i) (by omega) (by omega) (by omega) HO.out (fun h => hl h) (fun h => hr h) hro
end Go.Proofs.Ytamkbedbkjndgaa
