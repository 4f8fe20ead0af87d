/-
  nat: the document's own: Right, Trim, Of.
-/
import Derived.Test.YtbplchpbaonadaaDoorNu
namespace Go.Proofs.YtbplchpbaonadaaDoor
open Go.RowKit Go
set_option linter.unusedVariables false
set_option linter.unusedSimpArgs false
set_option maxRecDepth 100000
theorem dright_any (A : Option Addr) (n c : Nat) (l : List Nat) (w : World) (h : RU w A n l) (hn : n ≤ 1000000000) :
    Calls Tryd.prog 53 #[.slice A n c] w fun e w' => e = .returned (.bool (rightB l)) ∧ w = w' := by
  have hl := h.len
  by_cases h1 : n ≤ 256
  · have i1 : (n : Int) ≤ 256 := by omega
    by_cases h2 : n = 0
    · have hr : rightB l = true := by
        have : l = [] := List.eq_nil_of_length_eq_zero (by omega)
        subst this; rfl
      have i2 : ((n : Int) == 0) = true := by simp; omega
      rw [hr]
      have HH := Lib.hid h2
      clear h hl h2 hr
      go_enter Tryd.func53, Tryd.ntmps53
      go_wp2
      go_ret
      exact ⟨rfl, rfl⟩
    · obtain ⟨m, hm⟩ : ∃ m, n = m + 1 := ⟨n - 1, by omega⟩
      obtain ⟨b, off, rfl, hb, hc⟩ := h.at_ (show m < n by omega)
      obtain ⟨x, hx⟩ : ∃ x, l.getD m 0 = x := ⟨_, rfl⟩
      have hr : rightB l = !(x == 0) := by
        unfold rightB
        rw [hl, show n - 1 = m by omega, hx, decide_eq_true h1, show (n == 0) = false by simp; omega]
        rfl
      rw [hr]
      rw [hx] at hc
      have e1 : IntKind.i64.wrap ((n : Int) - 1) = (m : Int) := by rw [show (n : Int) - 1 = m by omega]; exact IntWalk.i64_in _ (by omega)
      have i2 : ((n : Int) == 0) = false := by simp; omega
      have i3 : (m : Int) < (n : Int) := by omega
      have i4 : (0 : Int) ≤ (m : Int) := by omega
      have HM := Lib.hid hm
      have HX := Lib.hid hx
      clear h hl h2 hr hm hx
      by_cases hx0 : x = 0
      · subst hx0
        have t1 : (((0 : Nat) : Int) != 0) = false := by simp
        go_enter Tryd.func53, Tryd.ntmps53
        go_wp2
        go_ret
        exact ⟨rfl, rfl⟩
      · have t1 : ((x : Int) != 0) = true := by simp; omega
        have t2 : (!(x == 0)) = true := by simp; omega
        rw [t2]
        clear t2
        have HX0 := Lib.hid hx0
        clear hx0
        go_enter Tryd.func53, Tryd.ntmps53
        go_wp2
        go_ret
        exact ⟨rfl, rfl⟩
  · have i1 : ¬ (n : Int) ≤ 256 := by omega
    have hr : rightB l = false := by
      unfold rightB
      rw [hl, decide_eq_false h1]
      rfl
    rw [hr]
    clear h hl hr
    go_enter Tryd.func53, Tryd.ntmps53
    go_wp2
    go_ret
    exact ⟨rfl, rfl⟩
set_option maxHeartbeats 4000000 in
theorem dtrim_any (A : Option Addr) (n c : Nat) (x : List Nat) (w : World) (h : RU w A n x) (hnc : n ≤ c) (hc : c ≤ 9223372036854775807) (hmost : n ≤ 900000) :
    Calls Tryd.prog 51 #[.slice A n c] w (BriefPost w n (val x)) := by
  have HA := Lib.hid h
  obtain ⟨k0, hk0⟩ : ∃ k0, n = k0 := ⟨_, rfl⟩
  have hk1 : k0 ≤ n := by omega
  have hk2 : k0 ≤ n := by omega
  have hQ : val x = val (x.take k0) := by rw [take_all (by rw [h.len]; omega)]
  rw [hQ]
  obtain ⟨v, hv⟩ : ∃ v, val (x.take k0) = v := ⟨_, rfl⟩
  rw [hv]
  have HV := Lib.hid hv
  have HK0 := Lib.hid hk0
  clear h hk0 hQ hv
  go_enter Tryd.func51, Tryd.ntmps51
  go_wp2
  go_loop [3] (fun vi => ∃ k : Nat, vi = .int .i64 (k : Int) ∧ k ≤ k0 ∧ Hid (trimN x k0 = trimN x k)) (fun vi => (intOf vi).toNat)
  case atStart => exact ⟨k0, by rw [HK0.out], Nat.le_refl _, rfl⟩
  case round =>
    obtain ⟨k, rfl, hk, HK⟩ := hrel
    have OWN := Lib.hid (OwnR.lit w 59 1 #[] 0 (by decide) rfl)
    have RUX := fun (hkk : k ≤ n) => (HA.out.take k hkk).alloc (.cells #[] 59)
    have HB9 : Hid (∀ {w9 : World}, (w.alloc (.cells #[] 59)).grownBy w9 (blk (some ⟨w.heap.size, 0, none⟩)) → Below w.heap.size w w9) := fun {w9} hg => by
      have h1 : Below w.heap.size w (w.alloc (.cells #[] 59)) := kp_alloc (Below.refl _ _) _
      exact h1.grown hg (by simp) (fun g hg => by have h2 : some w.heap.size = some g := hg; injection h2 with h2; omega)
    have HTT : Hid (trimN x k0 = k → x.take k = num v) := fun h => by
      rw [← HV.out, ← h]; exact trim_num x HA.out.lim k0 (by rw [HA.out.len]; exact hk1)
    rcases k with _ | j
    · as_aux_lemma =>
        have i1 : ¬ ((0 : Nat) : Int) > 0 := by omega
        have HT : Hid (x.take 0 = num v) := HTT.out HK.out
        have RUX := RUX (by omega)
        rw [HT.out] at RUX
        have RUX := Lib.hid RUX
        have i9 : ((0 : Nat) : Int) ≤ (c : Int) := by omega
        clear HK HTT
        go_wp2_with (at_builtin; refine wpList_appU _ _ rfl rfl rfl w.heap.size (some ⟨w.heap.size, 0, none⟩) 0 0 [] rfl OWN.out A 0 c (num v) rfl RUX.out (by omega) (by simp) ?_)
        intro A9 c9 w9 ho9 hg9
        have ho9 : OwnR w9 w.heap.size 59 1 A9 0 c9 ((num v).map v32) := by simpa using ho9
        have HF : Hid (RU w9 A9 0 (num v) ∧ 0 ≤ c9 ∧ c9 ≤ maxLen ∧ Below w.heap.size w w9) := ⟨ru_of_own ho9 (num_lim _), ho9.cap.1, ho9.cap.2, HB9.out hg9⟩
        clear ho9 hg9 OWN RUX HB9
        go_wp2
        go_ret
        refine ⟨A9, 0, c9, rfl, HF.out.1, by omega, HF.out.2.1, ?_, HF.out.2.2.2⟩
        have := HF.out.2.2.1
        unfold maxLen at this
        omega
    · by_cases hx0 : x.getD j 0 = 0
      · as_aux_lemma =>
        have i1 : ((j + 1 : Nat) : Int) > 0 := by omega
        obtain ⟨ba, oa, rfl, hba, cj⟩ := HA.out.at_ (j := j) (by omega)
        rw [hx0] at cj
        have e1 : IntKind.i64.wrap (((j + 1 : Nat) : Int) - 1) = (j : Int) := by rw [show ((j + 1 : Nat) : Int) - 1 = j by omega]; exact IntWalk.i64_in _ (by omega)
        have i3 : (j : Int) < (n : Int) := by omega
        have i4 : (0 : Int) ≤ (j : Int) := by omega
        have t1 : (((0 : Nat) : Int) == 0) = true := by simp
        have HN : Hid (trimN x k0 = trimN x j) := by unfold Hid; rw [HK.out, trimN, if_pos hx0]
        clear HK hx0 OWN RUX HB9 HTT
        go_wp2
        go_round
        case rel => exact ⟨j, rfl, by omega, HN⟩
        case measure => simp [intOf]
      · as_aux_lemma =>
        have i1 : ((j + 1 : Nat) : Int) > 0 := by omega
        have HT : Hid (x.take (j + 1) = num v) := HTT.out (by rw [HK.out, trimN, if_neg hx0])
        have RUX := RUX (by omega)
        rw [HT.out] at RUX
        have RUX := Lib.hid RUX
        have i9 : ((j + 1 : Nat) : Int) ≤ (c : Int) := by omega
        obtain ⟨ba, oa, hAe, hba, cj⟩ := HA.out.at_ (j := j) (by omega)
        obtain ⟨z, hz⟩ : ∃ z, x.getD j 0 = z := ⟨_, rfl⟩
        rw [hz] at cj hx0
        subst hAe
        have e1 : IntKind.i64.wrap (((j + 1 : Nat) : Int) - 1) = (j : Int) := by rw [show ((j + 1 : Nat) : Int) - 1 = j by omega]; exact IntWalk.i64_in _ (by omega)
        have i3 : (j : Int) < (n : Int) := by omega
        have i4 : (0 : Int) ≤ (j : Int) := by omega
        have t1 : ((z : Int) == 0) = false := by simp; omega
        have HX := Lib.hid (And.intro hz hx0)
        clear HK HTT hz hx0
        go_wp2_with (at_builtin; refine wpList_appU _ _ rfl rfl rfl w.heap.size (some ⟨w.heap.size, 0, none⟩) 0 0 [] rfl OWN.out (some ⟨ba, oa, none⟩) (j + 1) c (num v) rfl RUX.out (by omega) (by simp) ?_)
        intro A9 c9 w9 ho9 hg9
        have ho9 : OwnR w9 w.heap.size 59 1 A9 (j + 1) c9 ((num v).map v32) := by simpa using ho9
        have HF : Hid (RU w9 A9 (j + 1) (num v) ∧ (j + 1) ≤ c9 ∧ c9 ≤ maxLen ∧ Below w.heap.size w w9) := ⟨ru_of_own ho9 (num_lim _), ho9.cap.1, ho9.cap.2, HB9.out hg9⟩
        clear ho9 hg9 OWN RUX HB9
        go_wp2
        go_ret
        refine ⟨A9, (j + 1), c9, rfl, HF.out.1, by omega, HF.out.2.1, ?_, HF.out.2.2.2⟩
        have := HF.out.2.2.1
        unfold maxLen at this
        omega
/-- A number that is read and an error. -/
def NumD (w : World) (r : List Nat × Nat) (e : Ending) (w' : World) : Prop :=
  ∃ A n c, e = .returned (.tuple #[.slice A n c, .int .i64 (r.2 : Int)]) ∧ RU w' A n r.1 ∧ n ≤ c ∧ c ≤ 9223372036854775807 ∧ n ≤ 256 ∧ Below w.heap.size w w'
theorem NumD.err {w w' : World} {k : Nat} {e : Ending} (he : e = .returned (.tuple #[.slice none 0 0, .int .i64 (k : Int)])) (hb : Below w.heap.size w w') : NumD w ([], k) e w' :=
  ⟨_, _, _, he, RU.nil _, Nat.le_refl _, by omega, by omega, hb⟩
set_option maxHeartbeats 8000000 in
theorem dof_any (A : Option Addr) (n c : Nat) (bs : List UInt8) (w : World) (h : RB w A n bs) (hn : n ≤ 1000000) :
    Calls Tryd.prog 29 #[.slice A n c] w (NumD w (ofQ bs)) := by
  have hl := h.1
  by_cases h5 : n ≤ 512
  · rw [show ofQ bs = (num (beV bs), 0) by unfold ofQ; rw [if_pos (by omega)]]
    have i1 : ¬ (n : Int) > 512 := by omega
    obtain ⟨N, hN⟩ : ∃ N, (n + 3) / 4 = N := ⟨_, rfl⟩
    have e1 : IntKind.i64.wrap ((n : Int) + 3) = ((n + 3 : Nat) : Int) := by rw [show (n : Int) + 3 = ((n + 3 : Nat) : Int) by omega]; exact IntWalk.i64_in _ (by omega)
    obtain ⟨n3, hn3⟩ : ∃ n3, n + 3 = n3 := ⟨_, rfl⟩
    rw [hn3] at e1 hN
    have e2 : (n3 : Int) / 4 = (N : Int) := by omega
    have hN2 : N ≤ 200 := by omega
    have HA := Lib.hid h
    have H256 := Lib.hid (ofQ_len bs (by omega))
    have HNN := Lib.hid (And.intro hn3 hN)
    clear h hl h5 hn3 hN
    go_enter Tryd.func29, Tryd.ntmps29
    go_wp2_with (refine wpList_mkU _ _ rfl rfl _ _ _ _ N rfl rfl rfl rfl (by omega) ?_)
    intro w1 hblk hb1
    obtain ⟨G, hG⟩ : ∃ G, w.heap.size = G := ⟨_, rfl⟩
    have hwG : w.heap.size ≤ G := by omega
    rw [hG] at hblk ⊢
    have H1 : Hid (BlkU w1 G (List.replicate N 0) ∧ Below w.heap.size w w1) := ⟨hblk, hb1⟩
    clear hblk hb1
    have HG := Lib.hid hG
    clear hG
    go_wp2
    go_loopw [5] (fun vi wl => ∃ (i : Nat) (Z : List Nat), vi = .int .i64 (i : Int) ∧ i ≤ n ∧ Hid (BlkU wl G Z ∧ Z.length = N ∧ Lim Z ∧ val Z = tailV bs i ∧ Below w.heap.size w wl)) (fun vi _ => n - (intOf vi).toNat)
    case atStart => exact ⟨0, List.replicate N 0, rfl, Nat.zero_le _, H1.out.1, by simp, Lim.rep N, by rw [val_zero, tailV_zero], H1.out.2⟩
    case round =>
      obtain ⟨i, Z, rfl, hi, HK⟩ := hrel
      clear H1
      by_cases hlt : i < n
      · as_aux_lemma =>
        have i2 : (i : Int) < (n : Int) := by omega
        have i3 : (0 : Int) ≤ (i : Int) := by omega
        obtain ⟨f1, f2, f3, f4, f5⟩ := HK.out
        have hbl := HA.out.1
        have hNN := HNN.out
        have hk4 : i / 4 < Z.length := by omega
        obtain ⟨s1, s2, s3⟩ := of_step bs Z i _ (by omega) f3 hk4 f4 rfl
        obtain ⟨bb, ob, rfl, hbb, cb⟩ := HA.out.2.at_ (k := bs.length - 1 - i) (by omega)
        have cb1 := (f5.cell (p := ⟨bb, ob + (bs.length - 1 - i), none⟩) hbb).trans cb
        obtain ⟨q, hq⟩ : ∃ q, (bs[bs.length - 1 - i]'(by omega)).toNat = q := ⟨_, rfl⟩
        have hq256 : q < 256 := by rw [← hq]; exact UInt8.toNat_lt _
        rw [hq] at s1 s2 s3 cb1
        obtain ⟨k, hk⟩ : ∃ k, i / 4 = k := ⟨_, rfl⟩
        have cz := f1.cell (j := i / 4) hk4
        have fz := f1.free (i / 4)
        rw [hk] at s1 s2 s3 cz fz hk4
        obtain ⟨cv, hcv⟩ : ∃ cv, Z.getD k 0 = cv := ⟨_, rfl⟩
        have hcv32 := f3.getD k
        rw [hcv] at s1 s2 s3 cz hcv32
        obtain ⟨t, ht⟩ : ∃ t, 8 * (i % 4) = t := ⟨_, rfl⟩
        rw [ht] at s1 s2 s3
        obtain ⟨y, hy⟩ : ∃ y, q * 2 ^ t = y := ⟨_, rfl⟩
        rw [hy] at s1 s2 s3
        obtain ⟨p, hp⟩ : ∃ p, bs.length - 1 - i = p := ⟨_, rfl⟩
        rw [hp] at cb1
        obtain ⟨n1, hn1⟩ : ∃ n1, n - 1 = n1 := ⟨_, rfl⟩
        obtain ⟨rr, hrr⟩ : ∃ rr, i % 4 = rr := ⟨_, rfl⟩
        have e3 : IntKind.i64.wrap ((i : Int) + 1) = (i : Int) + 1 := IntWalk.i64_in _ (by omega)
        have e4 : (i : Int).tdiv 4 = (k : Int) := by rw [Int.tdiv_eq_ediv_of_nonneg i3]; omega
        have e5 : (i : Int) / 4 = (k : Int) := by omega
        have e6 : (i : Int).tmod 4 = (rr : Int) := by rw [Int.tmod_eq_emod_of_nonneg i3]; omega
        have e7 : (i : Int) % 4 = (rr : Int) := by omega
        have e8 : IntKind.i64.wrap (k : Int) = (k : Int) := IntWalk.i64_in _ (by omega)
        have e9 : IntKind.i64.wrap (8 * (rr : Int)) = (t : Int) := by rw [show 8 * (rr : Int) = (t : Int) by omega]; exact IntWalk.i64_in _ (by omega)
        have e10 : IntKind.i64.wrap ((n : Int) - 1) = (n1 : Int) := by rw [show (n : Int) - 1 = n1 by omega]; exact IntWalk.i64_in _ (by omega)
        have e11 : IntKind.i64.wrap ((n1 : Int) - (i : Int)) = (p : Int) := by rw [show (n1 : Int) - (i : Int) = p by omega]; exact IntWalk.i64_in _ (by omega)
        have e12 : IntKind.u32.wrap ((q : Int) * 2 ^ t) = (y : Int) := by
          rw [show (q : Int) * 2 ^ t = ((q * 2 ^ t : Nat) : Int) by push_cast; rfl, hy]
          exact IntWalk.u32_in _ (by omega)
        have e13 : min t 32 = t := by omega
        have e14 : (q : Int) * 2 ^ t % 4294967296 = (y : Int) := by
          rw [show (q : Int) * 2 ^ t = ((q * 2 ^ t : Nat) : Int) by push_cast; rfl, hy]
          omega
        have hor : bits .or .u32 (cv : Int) (y : Int) = ((y + cv : Nat) : Int) := by
          rw [u32_or_nat _ _ (by omega) (by omega), s1]
        obtain ⟨r, hr⟩ : ∃ r, y + cv = r := ⟨_, rfl⟩
        rw [hr] at hor s2 s3
        have j1 : (0 : Int) ≤ (k : Int) := by omega
        have j2 : (k : Int) < (N : Int) := by omega
        have j3 : (0 : Int) ≤ (p : Int) := by omega
        have j4 : (p : Int) < (n : Int) := by omega
        have j5 : (0 : Int) ≤ (t : Int) := by omega
        have HN : Hid (BlkU (wr.setCell ⟨G, k, none⟩ (.int .u32 (r : Int))).drew G (Z.set k r) ∧ (Z.set k r).length = N ∧ Lim (Z.set k r) ∧ val (Z.set k r) = tailV bs (i + 1) ∧ Below w.heap.size w ((wr.setCell ⟨G, k, none⟩ (.int .u32 (r : Int))).drew)) :=
          ⟨(f1.set k r).drew, by rw [List.length_set]; exact f2, f3.set k s2, s3, (kp_set f5 hwG).drew⟩
        have cz1 : wr.drew.cell? ⟨G, k, none⟩ = some (.int .u32 (cv : Int)) := cz
        have fz1 : wr.drew.frozen? ⟨G, k, none⟩ = false := fz
        have cb2 : wr.drew.cell? ⟨bb, ob + p, none⟩ = some (.int .u8 (q : Int)) := cb1
        clear f1 f2 f3 f4 f5 hbl hNN s1 s2 s3 hq hk hcv ht hy hp hn1 hrr cb hr HK cz fz cb1
        go_wp2_with fail
        go_region
        go_wp2
        go_roundw
        case rel => exact ⟨i + 1, _, by go_num, by omega, HN⟩
        case measure => simp [intOf]; omega
      · as_aux_lemma =>
        have i2 : ¬ (i : Int) < (n : Int) := by omega
        have hin : i = n := by omega
        obtain ⟨f1, f2, f3, f4, f5⟩ := HK.out
        rw [hin, show n = bs.length from HA.out.1.symm, tailV_all] at f4
        have h256 := H256.out
        have RZ := f1.ru f3 0 N (by omega)
        rw [List.drop_zero, take_all (by omega)] at RZ
        have TQ := dtrim_any (some ⟨G, 0, none⟩) N N Z wr RZ (Nat.le_refl _) (by omega) (by omega)
        rw [f4] at TQ
        have TQ := Lib.hid TQ
        have HF := Lib.hid f5
        have HI := Lib.hid hin
        clear f1 f2 f3 f4 f5 HK hin RZ
        go_wp2_with fail
        refine TQ.out.mono ?_
        rintro e w9 ⟨A9, k9, d9, rfl, r9, l9, m9, p9, hb9⟩
        have HP : Hid (RU w9 A9 k9 (num (beV bs)) ∧ k9 ≤ 256 ∧ Below w.heap.size w w9) := ⟨r9, by rw [← r9.len]; exact h256, kp_call HF.out hb9⟩
        clear TQ r9 hb9 l9
        go_wp2
        go_ret2
        exact ⟨A9, k9, d9, rfl, HP.out.1, m9, p9, HP.out.2.1, HP.out.2.2⟩
  · rw [show ofQ bs = ([], 10) by unfold ofQ; rw [if_neg (by omega)]]
    have i1 : (n : Int) > 512 := by omega
    clear h hl
    go_enter Tryd.func29, Tryd.ntmps29
    go_wp2
    go_ret2
    exact NumD.err rfl (Below.refl _ _)
end Go.Proofs.YtbplchpbaonadaaDoor
