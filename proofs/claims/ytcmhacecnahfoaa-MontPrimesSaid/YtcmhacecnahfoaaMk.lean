/-
  mont: the helpers of the statements: number, twin, below.
-/
import Derived.Test.YtcmhacecnahfoaaMj
import Derived.Test.YtcmhacecnahfoaaOd
namespace Go.Proofs.Ytcmhacecnahfoaa
open Go.RowKit Go
set_option linter.unusedVariables false
set_option linter.unusedSimpArgs false
set_option maxRecDepth 100000
set_option maxHeartbeats 8000000 in
theorem number_any (v : Nat) (w : World) (hv : v < 18446744073709551616) :
    Calls Try.prog 19 #[.int .u64 (v : Int)] w (BriefPost w 2 v) := by
  have hl2 : (num v).length ≤ 2 := (num_len v 2).2 hv
  have HL2 := Lib.hid hl2
  go_enter Try.func19, Try.ntmps19
  go_wp2
  go_loopw [0, 3] (fun vq vo wl => ∃ (q i : Nat) (V : Option Addr) (cv : Nat) (L : List Nat), vq = .int .u64 (q : Int) ∧ vo = .slice V i cv ∧ q < 18446744073709551616 ∧ Hid (OU wl w.heap.size V i cv L ∧ L.length = i ∧ Lim L ∧ L ++ num q = num v ∧ Below w.heap.size w wl)) (fun vq _ _ => (intOf vq).toNat)
  case atStart => exact ⟨v, 0, none, 0, [], rfl, rfl, hv, OwnR.nil _ _ _ _, rfl, Lim.nil, rfl, Below.refl _ _⟩
  case round =>
    obtain ⟨q, i, V, cv, L, rfl, rfl, hq, HK⟩ := hrel
    by_cases h0 : 0 < q
    · as_aux_lemma =>
      have i1 : (q : Int) > 0 := by omega
      obtain ⟨f1, f2, f3, f4, f5⟩ := HK.out
      have hnp := num_pos q (by omega)
      have um := and_mask q hq
      obtain ⟨r, hr⟩ : ∃ r, q % 4294967296 = r := ⟨_, rfl⟩
      obtain ⟨q2, hq2⟩ : ∃ q2, q / 4294967296 = q2 := ⟨_, rfl⟩
      rw [hr] at um hnp
      rw [hq2] at hnp
      have hr32 : r < 4294967296 := by omega
      have u3 : (r : Int) % 4294967296 = (r : Int) := by omega
      have u4 : (q : Int) / 4294967296 = (q2 : Int) := by omega
      have hq2l : q2 < q := by omega
      have hi2 : i ≤ 2 := by
        have h9 := congrArg List.length f4
        rw [List.length_append, f2] at h9
        have := HL2.out
        omega
      rw [hnp] at f4
      have OW := Lib.hid f1
      have F5 := Lib.hid f5
      have FL := Lib.hid (show _ ∧ _ from ⟨f2, f3⟩)
      have HEND : Hid (∀ A9 c9 w9, OU w9 w.heap.size A9 (i + 1) c9 (L ++ [r]) → Below w.heap.size w w9 → OU w9 w.heap.size A9 (i + 1) c9 (L ++ [r]) ∧ (L ++ [r]).length = i + 1 ∧ Lim (L ++ [r]) ∧ (L ++ [r]) ++ num q2 = num v ∧ Below w.heap.size w w9) := fun A9 c9 w9 h1 h2 =>
        ⟨h1, by rw [List.length_append, FL.out.1]; rfl, lim_snoc FL.out.2 hr32, by rw [List.append_assoc]; exact f4, h2⟩
      have BG : Hid (∀ W, wr.alloc (.cells #[.int .u32 (r : Int)] 31) = W → OU W w.heap.size V i cv L ∧ BlkU W wr.heap.size [r] ∧ Below w.heap.size w W ∧ w.heap.size ≤ W.heap.size) := fun W hW => by
        rw [← hW]
        refine ⟨OU.alloc OW.out _, has_new' _ _ _ rfl, kp_alloc F5.out _, ?_⟩
        have := F5.out.size
        simp
        omega
      obtain ⟨g1, g2, g3, g4⟩ := BG.out _ rfl
      have G1 := Lib.hid g1
      have G2 := Lib.hid g2
      have G3 := Lib.hid g3
      clear g1 g2 g3 OW F5 FL BG f1 f2 f3 f4 f5 hnp hr hq2 HK
      go_wp2_with (at_builtin; refine wpList_app1 _ _ rfl rfl rfl w.heap.size V i cv L rfl G1.out wr.heap.size 1 r rfl G2.out hr32 (by omega) g4 w G3.out (Nat.le_refl _) ?_)
      intro A9 c9 w9 ho9 hb9
      have HN := Lib.hid (HEND.out A9 c9 w9 ho9 hb9)
      clear ho9 hb9 G1 G2 G3 HEND
      go_wp2
      go_roundw
      case rel => exact ⟨q2, i + 1, A9, c9, L ++ [r], rfl, rfl, by omega, HN.out⟩
      case measure => simp [intOf]; omega
    · as_aux_lemma =>
      have i1 : ¬ (q : Int) > 0 := by omega
      have HF : Hid (RU wr V i (num v) ∧ i ≤ cv ∧ cv ≤ 9223372036854775807 ∧ i ≤ 2 ∧ Below w.heap.size w wr) := by
        obtain ⟨f1, f2, f3, f4, f5⟩ := HK.out
        rw [show q = 0 by omega, num_zero, List.append_nil] at f4
        have hcv := OwnR.cap f1
        subst f4
        exact ⟨ru_of_own f1 f3, hcv.1, by have := hcv.2; unfold maxLen at this; omega, by have := HL2.out; omega, f5⟩
      clear HK
      go_wp2
      go_ret
      exact ⟨V, i, cv, rfl, HF.out.1, HF.out.2.2.2.1, HF.out.2.1, HF.out.2.2.1, HF.out.2.2.2.2⟩
set_option maxHeartbeats 4000000 in
theorem mtwin_any (A : Option Addr) (n c : Nat) (x : List Nat) (w : World) (h : RU w A n x) (hn : n ≤ 900000) :
    Calls Try.prog 10 #[.slice A n c] w fun e w' => ∃ A' c', e = .returned (.slice A' n c') ∧ OwnR w' w.heap.size 31 1 A' n c' (x.map v32) ∧ Below w.heap.size w w' := by
  have OWN := Lib.hid (OwnR.lit w 31 1 #[] 0 (by decide) rfl)
  have RUX := Lib.hid (h.alloc (.cells #[] 31))
  have HB9 : Hid (∀ {w9 : World}, (w.alloc (.cells #[] 31)).grownBy w9 (blk (some ⟨w.heap.size, 0, none⟩)) → Below w.heap.size w w9) := fun {w9} hg => by
    have h1 : Below w.heap.size w (w.alloc (.cells #[] 31)) := kp_alloc (Below.refl _ _) _
    exact h1.grown hg (by simp) (fun g hg => by have h2 : some w.heap.size = some g := hg; injection h2 with h2; omega)
  clear h
  go_enter Try.func10, Try.ntmps10
  go_wp2_with (at_builtin; refine wpList_appU _ _ rfl rfl rfl w.heap.size (some ⟨w.heap.size, 0, none⟩) 0 0 [] rfl OWN.out A n c x rfl RUX.out (by omega) (by simp) ?_)
  intro A9 c9 w9 ho9 hg9
  have HF : Hid (OwnR w9 w.heap.size 31 1 A9 n c9 (x.map v32) ∧ Below w.heap.size w w9) := ⟨by simpa using ho9, HB9.out hg9⟩
  clear ho9 hg9 OWN RUX HB9
  go_wp2
  go_ret
  exact ⟨A9, c9, rfl, HF.out.1, HF.out.2⟩
set_option maxHeartbeats 8000000 in
/-- A number as one below a modulus. -/
theorem lbelow_any (A B : Option Addr) (n c k d : Nat) (x ms : List Nat) (w : World) (hA : RU w A n x) (hB : RU w B k ms) (hn : n ≤ 300) (hnc : n ≤ c) (hk : k ≤ 300) (hm : rightB ms = true) (hm0 : 0 < k) :
    Calls Try.prog 18 #[.slice A n c, .slice B k d] w fun e w' => ∃ A' n' c', e = .returned (.tuple #[.slice A' n' c', .bool true]) ∧ RU w' A' n' (num (briefQ x 128 % val ms)) ∧ n' ≤ 256 ∧ Below w.heap.size w w' := by
  have HA := Lib.hid hA
  have HB := Lib.hid hB
  obtain ⟨k0, hk0⟩ : ∃ k0, min n 128 = k0 := ⟨_, rfl⟩
  have e1 : min (n : Int) 128 = (k0 : Int) := by omega
  have hk1 : k0 ≤ n := by omega
  have hk2 : k0 ≤ 128 := by omega
  have hQ : briefQ x 128 = val (x.take k0) := by
    unfold briefQ
    by_cases h : n ≤ 128
    · rw [take_all (by rw [hA.len]; omega), take_all (by rw [hA.len]; omega)]
    · rw [show k0 = 128 by omega]
  rw [hQ]
  obtain ⟨v, hv⟩ : ∃ v, val (x.take k0) = v := ⟨_, rfl⟩
  rw [hv]
  have HV := Lib.hid hv
  have HMR := Lib.hid hm
  have HK0 := Lib.hid hk0
  clear hA hB hk0 hQ hv hm
  go_enter Try.func18, Try.ntmps18
  go_wp2
  go_loop [6] (fun vi => ∃ k : Nat, vi = .int .i64 (k : Int) ∧ k ≤ k0 ∧ Hid (trimN x k0 = trimN x k)) (fun vi => (intOf vi).toNat)
  case atStart => exact ⟨k0, rfl, Nat.le_refl _, rfl⟩
  case round =>
    obtain ⟨j0, rfl, hj, HK⟩ := hrel
    have HTT : Hid (trimN x k0 = j0 → x.take j0 = num v) := fun h => by
      rw [← HV.out, ← h]; exact trim_num x HA.out.lim k0 (by rw [HA.out.len]; exact hk1)
    have REST : Hid (x.take j0 = num v → ∀ (Q : Exit → Act → World → Prop), True) := fun _ _ => trivial
    have TW := Lib.hid (fun (h : j0 ≤ n) => mtwin_any A j0 c (x.take j0) w (HA.out.take j0 h) (by omega))
    have DV : Hid (x.take j0 = num v → ∀ W A' c', OwnR W w.heap.size 31 1 A' j0 c' ((x.take j0).map v32) → Below w.heap.size w W → Calls Try.prog 22 #[.slice A' j0 c', .slice B k d] W (NumR3 W ((num (v / val ms), num (v % val ms)), 0))) := fun ht W A' c' ho hb => by
      rw [ht] at ho
      have hru := ru_of_own ho (num_lim _)
      have hd := div_any A' B j0 c' k d (num v) ms W hru (HB.out.below hb) (by omega) hk
      have hq : divQ (num v) ms = ((num (v / val ms), num (v % val ms)), 0) := by
        unfold divQ
        have h9 : rightB (num v) = true := by
          rw [num_right]; exact decide_eq_true ((num_len v 256).1 (by rw [hru.len]; omega))
        rw [h9, HMR.out, show (ms.length == 0) = false by rw [HB.out.len, beq_eq_false_iff_ne]; omega, val_num]
        rfl
      rw [hq] at hd
      exact hd
    rcases j0 with _ | j
    · as_aux_lemma =>
        have i1 : ¬ ((0 : Nat) : Int) > 0 := by omega
        have HT : Hid (x.take 0 = num v) := HTT.out HK.out
        have i9 : ((0 : Nat) : Int) ≤ (c : Int) := by omega
        have i8 : (0 : Int) ≤ (c : Int) := by omega
        clear HK HTT REST
        go_wp2_with fail
        (with_reducible refine (TW.out (Nat.zero_le _)).mono ?_)
        rintro e w1 ⟨A1, c1, rfl, ho1, hb1⟩
        have D := Lib.hid (DV.out HT.out w1 A1 c1 ho1 hb1)
        have B1 := Lib.hid hb1
        clear ho1 hb1 DV TW
        go_wp2_with fail
        refine D.out.mono ?_
        rintro e w2 ⟨A2, n2, c2, A3, n3, c3, rfl, s2, l2, m2, p2, s3, l3, m3, p3, hb2⟩
        have HF : Hid (RU w2 A3 n3 (num (v % val ms)) ∧ Below w.heap.size w w2) := ⟨s3.ru, kp_call B1.out hb2⟩
        clear s2 s3 hb2 D B1
        go_wp2
        go_ret2
        exact ⟨A3, n3, c3, rfl, HF.out.1, p3, HF.out.2⟩
    · by_cases hx0 : x.getD j 0 = 0
      · as_aux_lemma =>
        have i1 : ((j + 1 : Nat) : Int) > 0 := by omega
        obtain ⟨ba, oa, rfl, hba, cj⟩ := HA.out.at_ (j := j) (by omega)
        rw [hx0] at cj
        have e1 : IntKind.i64.wrap (((j + 1 : Nat) : Int) - 1) = (j : Int) := by rw [show ((j + 1 : Nat) : Int) - 1 = j by omega]; exact IntWalk.i64_in _ (by omega)
        have i3 : (j : Int) < (n : Int) := by omega
        have i4 : (0 : Int) ≤ (j : Int) := by omega
        have t1 : (((0 : Nat) : Int) == 0) = true := by simp
        have HN : Hid (trimN x k0 = trimN x j) := by unfold Hid; rw [HK.out, trimN, if_pos hx0]
        clear HK hx0 HTT REST TW DV
        go_wp2
        go_round
        case rel => exact ⟨j, rfl, by omega, HN⟩
        case measure => simp [intOf]
      · as_aux_lemma =>
        have i1 : ((j + 1 : Nat) : Int) > 0 := by omega
        have HT : Hid (x.take (j + 1) = num v) := HTT.out (by rw [HK.out, trimN, if_neg hx0])
        have i9 : ((j + 1 : Nat) : Int) ≤ (c : Int) := by omega
        obtain ⟨ba, oa, hAe, hba, cj⟩ := HA.out.at_ (j := j) (by omega)
        obtain ⟨z, hz⟩ : ∃ z, x.getD j 0 = z := ⟨_, rfl⟩
        rw [hz] at cj hx0
        subst hAe
        have e1 : IntKind.i64.wrap (((j + 1 : Nat) : Int) - 1) = (j : Int) := by rw [show ((j + 1 : Nat) : Int) - 1 = j by omega]; exact IntWalk.i64_in _ (by omega)
        have i3 : (j : Int) < (n : Int) := by omega
        have i4 : (0 : Int) ≤ (j : Int) := by omega
        have t1 : ((z : Int) == 0) = false := by simp; omega
        have HX := Lib.hid (And.intro hz hx0)
        clear HK HTT hz hx0 REST
        go_wp2_with fail
        (with_reducible refine (TW.out (by omega)).mono ?_)
        rintro e w1 ⟨A1, c1, rfl, ho1, hb1⟩
        have D := Lib.hid (DV.out HT.out w1 A1 c1 ho1 hb1)
        have B1 := Lib.hid hb1
        clear ho1 hb1 DV TW
        go_wp2_with fail
        refine D.out.mono ?_
        rintro e w2 ⟨A2, n2, c2, A3, n3, c3, rfl, s2, l2, m2, p2, s3, l3, m3, p3, hb2⟩
        have HF : Hid (RU w2 A3 n3 (num (v % val ms)) ∧ Below w.heap.size w w2) := ⟨s3.ru, kp_call B1.out hb2⟩
        clear s2 s3 hb2 D B1
        go_wp2
        go_ret2
        exact ⟨A3, n3, c3, rfl, HF.out.1, p3, HF.out.2⟩
end Go.Proofs.Ytcmhacecnahfoaa
