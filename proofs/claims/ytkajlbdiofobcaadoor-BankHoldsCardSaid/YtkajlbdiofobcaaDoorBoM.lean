/-
  bank: the row BankHolds, walked (made by genBoM.py).
-/
import Derived.Test.YtkajlbdiofobcaaDoorBo3
namespace Go.Proofs.YtkajlbdiofobcaaDoor
open Go.RowKit Go
set_option linter.unusedVariables false
set_option linter.unusedSimpArgs false
set_option maxRecDepth 100000
/-- Where the row's loop stands: what was wanted so far is a row of its own, whose bytes came in. -/
structure HolSt (w wl : World) (D : Nat) (b g a c n i : Nat) (S : FS) (rs : List RL) (k : Nat) (M : Option Addr) (m cm : Nat) (ds : List DV) : Prop where
  hol : Hol w wl b g a c n i S rs k
  row : OwnR wl D 52 3 M m cm (ds.flatMap DV.cells)
  bytes : ∀ x ∈ ds, RB w x.K x.kn x.key ∧ RB w x.V x.vn x.val
  lim : ∀ x ∈ ds, x.kn ≤ 1000000000 ∧ x.vn ≤ 1000000000
  pl : ds.map DV.pl = rs
  len : rs.length = m
  mi : m ≤ i
  ga : g < D ∧ a < D
  dl : D ≤ wl.heap.size
  wd : w.heap.size ≤ D
theorem HolSt.dvs {w wl : World} {D b g a c n i : Nat} {S : FS} {rs : List RL} {k : Nat} {M : Option Addr} {m cm : Nat} {ds : List DV} (h : HolSt w wl D b g a c n i S rs k M m cm ds) : DVs wl M m ds :=
  ⟨by have := congrArg List.length h.pl; rw [List.length_map] at this; rw [this]; exact h.len, h.row.reads, fun x hx => ⟨(h.bytes x hx).1.below h.hol.bel, (h.bytes x hx).2.below h.hol.bel⟩, h.lim⟩
set_option maxHeartbeats 32000000 in
theorem holds_row (A : Option Addr) (n c : Nat) (os : Nat → BOp) (ct : Int) (w : World) (ho : IsBOps w A n c os ∧ ∀ r, r < n → (os r).kn ≤ 140737488351232 ∧ (os r).vn ≤ 140737488351232) (hi : (Lit.int .u8 ct).wf = true) (ht : Tabs w) :
    Calls Tryd.prog 6 #[.slice A n c, .int .u8 ct] w fun e w' => e = .returned (.bool true) ∧ Below w.heap.size w w' := by
  have HT := Lib.hid ht
  have WK := Lib.hid (fun (W : World) (hb : Below w.heap.size w W) => works8_any W (HT.out.below hb))
  by_cases hn : 40 < n
  · have p1 : decide ((n : Int) > 40) = true := decide_eq_true (by omega)
    clear ho
    go_enter Tryd.func6, Tryd.ntmps6
    go_wp2_with fail
    refine (WK.out _ (Below.refl _ _)).mono ?_
    rintro e w2 ⟨rfl, hb2⟩
    go_wp2
    go_ret
    exact ⟨rfl, hb2⟩
  have p1 : decide ((n : Int) > 40) = false := decide_eq_false (by omega)
  have hn40 : Hid (n ≤ 40) := by unfold Hid; omega
  have bi := bounds_u8 hi
  obtain ⟨q, rfl⟩ : ∃ q : Nat, ct = (q : Int) := ⟨ct.toNat, by omega⟩
  obtain ⟨N, hN⟩ : ∃ N, 1 + q % 4 = N := ⟨_, rfl⟩
  have HN : Hid (1 ≤ N ∧ N ≤ 4) := ⟨by omega, by omega⟩
  have ew : IntKind.i64.wrap (q : Int) = (q : Int) := IntWalk.i64_in _ (by omega)
  obtain ⟨q4, hq4⟩ : ∃ q4, q % 4 = q4 := ⟨_, rfl⟩
  have tm : Int.tmod (q : Int) 4 = (q4 : Int) := by rw [Int.tmod_eq_emod_of_nonneg (by omega)]; omega
  have ea : IntKind.i64.wrap (1 + (q4 : Int)) = (N : Int) := by rw [IntWalk.i64_in _ (by omega)]; omega
  clear bi hi hN hq4
  obtain ⟨S1, S2, f1, f2, f3, f4, f5, f6, f7, f8, f9⟩ := begin_calm 7 1 N 6 128 (by have := HN.out; omega) (by have := HN.out; omega)
  have FA := Lib.hid f1
  have FB := Lib.hid f2
  have F2 : Hid (S2.n = 6 ∧ S2.s = 128 ∧ S2.off = false ∧ S2.left = 0 ∧ S2.bs = List.replicate 128 255 ++ bankL (hdR 7) [] (N * 128 - 16) ++ List.replicate ((5 - N) * 128) 255 ∧ S2.wr ≤ 1000 ∧ S1.wr ≤ 1000) := ⟨f5, f6, f7, f8, by
    rw [f9, show 6 - 1 - N = 5 - N by omega]; rfl, by have := HN.out; omega, by have := HN.out; omega⟩
  have NW := Lib.hid (fnew_any 6 128 (by omega) (by omega) (by omega) (by omega) w)
  have HO := Lib.hid ho
  clear f1 f2 f3 f4 f5 f6 f7 f8 f9 ht ho hn
  go_enter Tryd.func6, Tryd.ntmps6
  go_wp2_with fail
  refine NW.out.mono ?_
  rintro e w1 ⟨g, a, cc, rfl, hf1, hb1⟩
  have HF1 := Lib.hid hf1
  have HB1 := Lib.hid hb1
  clear NW hf1 hb1
  go_wp2_with fail
  refine (at_any (F := 1) (C := N) HF1.out HN.out.1 (by have := HN.out; show 1 + N ≤ 6; omega) (by have := HN.out; show 64 ≤ N * 128; omega)).mono ?_
  rintro e w2 ⟨b, rfl, hK2, hbb, hb2⟩
  have HK2 := Lib.hid hK2
  have HB2 := Lib.hid (HB1.out.trans (hb2.mono HB1.out.size))
  clear hK2 hbb hb2 HF1 HB1 tm ea ew
  go_wp2_with fail
  have FM := format_any HT.out (Nat.le_refl _) HB2.out HK2.out (by show 0 < _; omega) 7 (by omega)
  rw [FA.out] at FM
  refine FM.mono ?_
  clear FM
  rintro e w4 ⟨rfl, hK4, hfar4⟩
  have HK4 : Hid (BK w4 w.heap.size b g a cc S1 1 N) := hK4
  have HB4 : Hid (Below w.heap.size w w4) := HB2.out.trans (hfar4.below HK2.out.fl.gb (HK2.out.fl.own.blk_lt rfl).1 HB2.out.size)
  clear hK4 hfar4 HK2 HB2
  go_wp2_with fail
  have RY := ready_any HK4.out (by have := F2.out.2.2.2.2.2.2; omega)
  rw [FB.out] at RY
  refine RY.mono ?_
  clear RY
  rintro e w5 ⟨rfl, hK5, hfar5⟩
  have hb5 : Below w.heap.size w w5 := HB4.out.trans (hfar5.below HK4.out.fl.gb (HK4.out.fl.own.blk_lt rfl).1 HB4.out.size)
  have HH5 : Hid (Hol w w5 b g a cc N 0 S2 [] (N * 128 - 16)) := by
    obtain ⟨a1, a2, a3, a4, a5, a6, _⟩ := F2.out
    refine ⟨hK5, a1, a2, a3, a4, a5, ?_, fun r hr => (by cases hr), by omega, hb5⟩
    have := HN.out
    rw [bankL_len, hdR_len]; simp [layAll]; omega
  clear hK5 hfar5 HK4 HB4 FA FB hb5
  go_wp2_with fail
  have RM := room_any HH5.out.bk
  rw [F2.out.2.1] at RM
  refine RM.mono ?_
  clear RM F2
  rintro e w6 ⟨rfl, hb6⟩
  have ST0 : Hid (HolSt w w6 w6.heap.size b g a cc N 0 S2 [] (N * 128 - 16) none 0 0 []) := by
    have h1 := HH5.out
    have hb := kp_call h1.bel hb6
    exact ⟨⟨h1.bk.below hb6, h1.n6, h1.s8, h1.off, h1.left, h1.bs, h1.blen, h1.ok, h1.wr, hb⟩, OwnR.nil _ _ _ _, fun x hx => (by cases hx), fun x hx => (by cases hx), rfl, rfl, Nat.le_refl _, ⟨Nat.lt_of_lt_of_le h1.bk.fl.alt hb6.size, Nat.lt_of_lt_of_le (h1.bk.fl.own.blk_lt rfl).2 hb6.size⟩, Nat.le_refl _, hb.size⟩
  have hDD : Hid (w.heap.size ≤ w6.heap.size) := ST0.out.hol.bel.size
  generalize w6.heap.size = D at *
  clear HH5 hb6
  go_wp2_with fail
  go_loopw [9, 10, 11] (fun v9 v10 v11 wl => ∃ (i : Nat) (S : FS) (rs : List RL) (k : Nat) (M : Option Addr) (m cm : Nat) (ds : List DV), v9 = .int .i64 (k : Int) ∧ v10 = .slice M m cm ∧ v11 = .int .i64 (i : Int) ∧ i ≤ n ∧ Hid (HolSt w wl D b g a cc N i S rs k M m cm ds)) (fun _ _ v11 _ => n - (intOf v11).toNat)
  case atStart => exact ⟨0, S2, [], _, none, 0, 0, [], rfl, rfl, rfl, Nat.zero_le _, ST0⟩
  case round =>
    obtain ⟨i, S, rs, k, M, m, cm, ds, rfl, rfl, rfl, hi, HS⟩ := hrel
    clear ST0
    by_cases hlt : i < n
    · have i1 : (i : Int) < (n : Int) := by omega
      have i0 : (0 : Int) ≤ (i : Int) := by omega
      have e9 : IntKind.i64.wrap ((i : Int) + 1) = (i : Int) + 1 := IntWalk.i64_in _ (by have := hn40.out; omega)
      obtain ⟨b0, off, rfl, hb0, ⟨_, _, _, hkk, hvv⟩, hc⟩ := HO.out.1.rows i hlt
      obtain ⟨hkl, hvl⟩ := HO.out.2 i hlt
      generalize os i = o at *
      obtain ⟨kd, np, pt, K, kn, kc, V, vn, vc, key, val⟩ := o
      have hbel := HS.out.hol.bel
      have c3 := kp_cell hbel (hc 3 (.slice K kn kc) rfl)
      have c4 := kp_cell hbel (hc 4 (.slice V vn vc) rfl)
      have TK := Lib.hid (fun W (hb : Below w.heap.size w W) => twin8_big K kn kc key W (hkk.rb.below hb) hkl)
      have TV := Lib.hid (fun W (hb : Below w.heap.size w W) => twin8_big V vn vc val W (hvv.rb.below hb) hvl)
      have RKV : Hid (RB w K kn key ∧ RB w V vn val) := ⟨hkk.rb, hvv.rb⟩
      have hkl' : kn ≤ 140737488351232 := hkl
      have hvl' : vn ≤ 140737488351232 := hvl
      clear hkk hvv hc hkl hvl hb0 hbel
      go_wp2_with fail
      refine (TK.out _ HS.out.hol.bel).mono ?_
      rintro e X1 ⟨A1, n1, c1', rfl, ho1, hb1⟩
      have HO1 := Lib.hid ho1
      have HB1 := Lib.hid hb1
      clear ho1 hb1 TK c3 c4
      go_wp2_with fail
      refine (TV.out _ (kp_call HS.out.hol.bel HB1.out)).mono ?_
      rintro e X2 ⟨A2, n2, c2', rfl, ho2, hb2⟩
      have AD : Hid (Calls Tryd.prog 17 #[.pointer (some ⟨b, 0, none⟩), .slice A1 n1 c1', .slice A2 n2 c2'] X2 (AddPost X2 w.heap.size b g a cc S 1 N key val)) := by
        have hb := kp_call HB1.out hb2
        have h1 := HO1.out.below hb2 (Nat.le_refl _)
        have hx := HS.out.ga
        have hy := HS.out.dl
        have hz := HB1.out.size
        refine add_any8 HT.out (Nat.le_refl _) (kp_call HS.out.hol.bel hb) (HS.out.hol.bk.below hb) HS.out.hol.off A1 A2 n1 c1' n2 c2' key val h1.rb ho2.rb (fun _ d hd => ?_) (fun _ d hd => ?_) (by have := HS.out.hol.wr; have := hn40.out; omega)
        · subst hd; have := (h1.blk_lt rfl).1; omega
        · subst hd; have := (ho2.blk_lt rfl).1; omega
      have HB2 := Lib.hid (kp_call HB1.out hb2)
      clear ho2 hb2 HO1 HB1 TV
      go_wp2_with fail
      refine AD.out.mono ?_
      rintro e X3 ⟨T, r, rfl, hadd, hK3, hfar3⟩
      have hb3 : Below w.heap.size w X3 := (kp_call HS.out.hol.bel HB2.out).trans (hfar3.below HS.out.hol.bk.fl.gb (HS.out.hol.bk.fl.own.blk_lt rfl).1 (kp_call HS.out.hol.bel HB2.out).size)
      have hrow3 : OwnR X3 D 52 3 M m cm (ds.flatMap DV.cells) := (HS.out.row.below HB2.out (Nat.le_refl _)).far hfar3 HS.out.ga.1 HS.out.ga.2
      have hszX : wr.heap.size ≤ X3.heap.size := Nat.le_trans HB2.out.size hfar3.size
      have hcs := HS.out.hol.add hadd hK3 hb3
      have HKL : Hid (key.length = kn ∧ val.length = vn) := ⟨RKV.out.1.1, RKV.out.2.1⟩
      rw [HKL.out.1, HKL.out.2] at hcs
      have HOLD : Hid ((∀ x ∈ ds, RB w x.K x.kn x.key ∧ RB w x.V x.vn x.val) ∧ (∀ x ∈ ds, x.kn ≤ 1000000000 ∧ x.vn ≤ 1000000000) ∧ ds.map DV.pl = rs ∧ rs.length = m ∧ m ≤ i ∧ (g < D ∧ a < D) ∧ D ≤ X3.heap.size) := ⟨HS.out.bytes, HS.out.lim, HS.out.pl, HS.out.len, HS.out.mi, HS.out.ga, Nat.le_trans HS.out.dl hszX⟩
      have HROW := Lib.hid hrow3
      have kbig : Hid (k ≤ 4194304) := by
        have h1 := HS.out.hol.blen
        have h2 := HN.out
        rw [bankL_len] at h1
        unfold Hid; omega
      have hm40 : Hid (m ≤ 40) := by have := HS.out.mi; have := hn40.out; unfold Hid; omega
      clear AD hadd hK3 hfar3 hb3 hrow3 hszX HS HB2
      rcases hcs with ⟨hno, rfl, hH⟩ | ⟨hfit, hk, rfl, hH⟩ | ⟨hfit, hk, rfl, hH⟩
      · rcases (show kn < 1 ∨ (1 ≤ kn ∧ 255 < kn) ∨ (1 ≤ kn ∧ kn ≤ 255 ∧ 65536 < vn) by omega) with hz | ⟨hz1, hz2⟩ | ⟨hz1, hz2, hz3⟩
        · have t1 : decide ((kn : Int) < 1) = true := decide_eq_true (by omega)
          clear hz
          have RELN : Hid (HolSt w X3 D b g a cc N (i + 1) T rs k M m cm ds) := by
            obtain ⟨a1, a2, a3, a4, a5, a6, a7⟩ := HOLD.out
            exact ⟨hH, HROW.out, a1, a2, a3, a4, by omega, a6, a7, hDD.out⟩
          clear hH HOLD HROW hno
          go_wp2_with fail
          go_roundw
          case rel => exact ⟨i + 1, T, rs, k, M, m, cm, ds, rfl, rfl, by go_num, by omega, RELN⟩
          case measure => simp [intOf]; omega
        · have t1 : decide ((kn : Int) < 1) = false := decide_eq_false (by omega)
          have t2 : decide ((kn : Int) > 255) = true := decide_eq_true (by omega)
          clear hz1 hz2
          have RELN : Hid (HolSt w X3 D b g a cc N (i + 1) T rs k M m cm ds) := by
            obtain ⟨a1, a2, a3, a4, a5, a6, a7⟩ := HOLD.out
            exact ⟨hH, HROW.out, a1, a2, a3, a4, by omega, a6, a7, hDD.out⟩
          clear hH HOLD HROW hno
          go_wp2_with fail
          go_roundw
          case rel => exact ⟨i + 1, T, rs, k, M, m, cm, ds, rfl, rfl, by go_num, by omega, RELN⟩
          case measure => simp [intOf]; omega
        · have t1 : decide ((kn : Int) < 1) = false := decide_eq_false (by omega)
          have t2 : decide ((kn : Int) > 255) = false := decide_eq_false (by omega)
          have t3 : decide ((vn : Int) > 65536) = true := decide_eq_true (by omega)
          clear hz1 hz2 hz3
          have RELN : Hid (HolSt w X3 D b g a cc N (i + 1) T rs k M m cm ds) := by
            obtain ⟨a1, a2, a3, a4, a5, a6, a7⟩ := HOLD.out
            exact ⟨hH, HROW.out, a1, a2, a3, a4, by omega, a6, a7, hDD.out⟩
          clear hH HOLD HROW hno
          go_wp2_with fail
          go_roundw
          case rel => exact ⟨i + 1, T, rs, k, M, m, cm, ds, rfl, rfl, by go_num, by omega, RELN⟩
          case measure => simp [intOf]; omega
      · have t1 : decide ((kn : Int) < 1) = false := decide_eq_false (by omega)
        have t2 : decide ((kn : Int) > 255) = false := decide_eq_false (by omega)
        have t3 : decide ((vn : Int) > 65536) = false := decide_eq_false (by omega)
        obtain ⟨s1, hs1⟩ : ∃ s1, kn + vn = s1 := ⟨_, rfl⟩
        obtain ⟨s2, hs2⟩ : ∃ s2, s1 + 12 = s2 := ⟨_, rfl⟩
        have w1 : IntKind.i64.wrap ((kn : Int) + (vn : Int)) = (s1 : Int) := by rw [IntWalk.i64_in _ (by omega)]; omega
        have w2 : IntKind.i64.wrap ((s1 : Int) + 12) = (s2 : Int) := by rw [IntWalk.i64_in _ (by omega)]; omega
        have t4 : decide ((s2 : Int) > (k : Int)) = true := decide_eq_true (by omega)
        have t4n : k < s2 := by omega
        clear hfit hk hs1 hs2
        have RELN : Hid (HolSt w X3 D b g a cc N (i + 1) T rs k M m cm ds) := by
          obtain ⟨a1, a2, a3, a4, a5, a6, a7⟩ := HOLD.out
          exact ⟨hH, HROW.out, a1, a2, a3, a4, by omega, a6, a7, hDD.out⟩
        clear hH HOLD HROW
        go_wp2_with fail
        go_roundw
        case rel => exact ⟨i + 1, T, rs, k, M, m, cm, ds, rfl, rfl, by go_num, by omega, RELN⟩
        case measure => simp [intOf]; omega
      · have t1 : decide ((kn : Int) < 1) = false := decide_eq_false (by omega)
        have t2 : decide ((kn : Int) > 255) = false := decide_eq_false (by omega)
        have t3 : decide ((vn : Int) > 65536) = false := decide_eq_false (by omega)
        obtain ⟨s1, hs1⟩ : ∃ s1, kn + vn = s1 := ⟨_, rfl⟩
        obtain ⟨s2, hs2⟩ : ∃ s2, s1 + 12 = s2 := ⟨_, rfl⟩
        have w1 : IntKind.i64.wrap ((kn : Int) + (vn : Int)) = (s1 : Int) := by rw [IntWalk.i64_in _ (by omega)]; omega
        have w2 : IntKind.i64.wrap ((s1 : Int) + 12) = (s2 : Int) := by rw [IntWalk.i64_in _ (by omega)]; omega
        have t4 : decide ((s2 : Int) > (k : Int)) = false := decide_eq_false (by omega)
        have t4n : ¬ k < s2 := by omega
        have t4m : s2 ≤ k := by omega
        obtain ⟨k', hk'⟩ : ∃ k', k - (12 + kn + vn) = k' := ⟨_, rfl⟩
        have w3 : IntKind.i64.wrap ((k : Int) - ((12 + kn + vn : Nat) : Int)) = (k' : Int) := by have := kbig.out; rw [IntWalk.i64_in _ (by omega)]; omega
        obtain ⟨nd, hnd⟩ : ∃ nd, 12 + kn + vn = nd := ⟨_, rfl⟩
        have ND := Lib.hid (need_any kn vn (by omega) (by omega) X3)
        rw [hnd] at w3 hk'
        rw [hnd] at ND hH
        rw [hk'] at hH
        have HFIT := Lib.hid hfit
        clear hfit hk hs1 hs2 hnd hk'
        go_wp2_with fail
        refine ND.out.mono ?_
        rintro e X4 ⟨rfl, hX4⟩
        subst X4
        clear ND
        have H1c : Hid (∀ u ∈ (#[.slice K kn kc, .slice V vn vc, .bool true] : Array Value).toList, u.oneCell' = true) := by
          intro u hu; simp at hu; rcases hu with rfl | rfl | rfl <;> rfl
        go_wp2_with (at_builtin; refine wpList_appL drec_row _ _ rfl rfl rfl D M m cm _ rfl (HROW.out.alloc _) X3.heap.size 1 1 #[.slice K kn kc, .slice V vn vc, .bool true] _ rfl (has_new _ _) rfl H1c.out (by have := hm40.out; unfold maxLen; omega) (by have := hm40.out; omega) (by have := HOLD.out.2.2.2.2.2.2; simp; omega) ?_)
        intro M2 cm2 X5 ho5 hg5
        have RELN : Hid (HolSt w X5 D b g a cc N (i + 1) T (rs ++ [⟨key, val, true⟩]) k' M2 (m + 1) cm2 (ds ++ [⟨K, kn, kc, V, vn, vc, key, val, true⟩])) := by
          obtain ⟨a1, a2, a3, a4, a5, a6, a7⟩ := HOLD.out
          have hal : Below X3.heap.size X3 (X3.alloc (.cells #[.slice K kn kc, .slice V vn vc, .bool true] 52)) := kp_alloc (Below.refl _ _) _
          have hfarX : ∀ x, X3.heap.size ≤ x ∨ True := fun _ => .inr trivial
          have hbD : Below D X3 X5 := ((hal.mono a7).grown hg5 (by simp; omega) (fun g hg => (HROW.out.blk_lt hg).1))
          have hK5 : BK X5 w.heap.size b g a cc T 1 N := by
            have hKa := hH.bk.alloc (.cells #[.slice K kn kc, .slice V vn vc, .bool true] 52)
            have hneM : ∀ j, j < D → blk M ≠ some j := fun j hj e => by have := (HROW.out.blk_lt e).1; omega
            have hrowA := HROW.out.alloc (.cells #[.slice K kn kc, .slice V vn vc, .bool true] 52)
            refine ⟨?_, ?_, hKa.c1, hKa.fc, hKa.cs, hKa.bb, hKa.bg, hKa.ba⟩
            · rw [hg5.block b (block_lt hKa.bk) (fun e => ?_)]
              · exact hKa.bk
              · obtain ⟨cur, h9⟩ := hrowA.kind b e.symm
                have h8 := hKa.bk
                rw [h9] at h8
                injection h8 with h8
                injection h8 with _ h8
                exact absurd h8 (by decide)
            · have hFa := hKa.fl
              exact ⟨(hg5.block g (block_lt hFa.st) (fun e => hneM g a6.1 e.symm)).trans hFa.st, hFa.own.kept hg5 (.inr (fun e => hneM a a6.2 e.symm)), hFa.gb, hFa.ne, hFa.n1, hFa.n2, hFa.s1, hFa.s2, hFa.lb⟩
          refine ⟨⟨hK5, hH.n6, hH.s8, hH.off, hH.left, hH.bs, hH.blen, hH.ok, hH.wr, hH.bel.trans (hbD.mono hDD.out)⟩, ?_, fun x hx => ?_, fun x hx => ?_, ?_, by simp [a4], by omega, a6, Nat.le_trans a7 (Nat.le_trans (by simp) hg5.size), hDD.out⟩
          · rw [List.flatMap_append]; exact ho5
          · rcases List.mem_append.1 hx with hx | hx
            · exact a1 x hx
            · rw [List.mem_singleton.1 hx]; exact RKV.out
          · rcases List.mem_append.1 hx with hx | hx
            · exact a2 x hx
            · rw [List.mem_singleton.1 hx]
              have h9 := HFIT.out
              exact ⟨Nat.le_trans h9.2.1 (by omega), Nat.le_trans h9.2.2 (by omega)⟩
          · rw [List.map_append, a3]; rfl
        clear ho5 hg5 hH HOLD HROW
        go_wp2_with fail
        go_roundw
        case rel => exact ⟨i + 1, T, _, k', M2, m + 1, cm2, _, rfl, rfl, by go_num, by omega, RELN⟩
        case measure => simp [intOf]; omega
    · have i1 : ¬ (i : Int) < (n : Int) := by omega
      have hin : i = n := by omega
      subst hin
      have HH := Lib.hid HS.out.hol
      have hm40 : Hid (m ≤ 40) := by have := HS.out.mi; have := hn40.out; unfold Hid; omega
      have LK := Lib.hid (look_any (HT.out.below HS.out.hol.bel) HS.out.hol.bk HS.out.hol.off (hdR 7) (List.replicate k 255) rs HS.out.hol.bank (hdR_len 7) HS.out.hol.ok (recQ_free k) (by have := HS.out.len; have := hm40.out; omega) true (whole_laid (hdR 7) rs k (hdR_len 7)))
      go_wp2_with fail
      refine LK.out.mono ?_
      rintro e w7 ⟨B2, d2, ds2, he7, hpl2, hD2, hb7⟩
      rw [HS.out.len] at he7 hD2
      subst he7
      have HD2 := Lib.hid hD2
      have HPL2 := Lib.hid hpl2
      have HB7 := Lib.hid hb7
      have HD := Lib.hid (head_on (HT.out.below (kp_call HS.out.hol.bel hb7)) (HS.out.hol.bk.below hb7) HS.out.hol.off)
      rw [HS.out.hol.bank, head_hd 7 (by omega)] at HD
      clear LK hpl2 hD2 hb7
      go_wp2_with fail
      refine HD.out.mono ?_
      rintro e w8 ⟨rfl, hb8⟩
      have HB8 := Lib.hid (kp_call HB7.out hb8)
      have HD8 := Lib.hid (HD2.out.below hb8)
      have HDS := Lib.hid (HS.out.dvs.below HB8.out)
      have HPL := Lib.hid HS.out.pl
      clear hb8 HD HD2 HB7
      go_wp2_with fail
      refine (samerecs_any B2 M m d2 m cm ds2 ds w8 HD8.out.dvs HDS.out (by have := hm40.out; omega) (by have := hm40.out; omega)).mono ?_
      rintro e w9 ⟨v, rfl, hv, hb9⟩
      obtain rfl : v = true := hv.2 (by rw [HPL2.out]; exact HPL.out.symm)
      have HB9 := Lib.hid (kp_call HB8.out hb9)
      clear hv hb9 HD8 HDS HB8 HPL2 HPL
      go_wp2_with fail
      refine (fimage_any (HH.out.bk.fl.below HB9.out)).mono ?_
      rintro e w10 ⟨AI, nI, cI, rfl, hoI, hb10⟩
      obtain ⟨hI1, hI2, hI3⟩ := HH.out.byte HN.out.2
      obtain rfl : nI = 768 := hoI.len.symm.trans hI1
      obtain ⟨bsI, hbsI⟩ : ∃ bsI, S.bs = bsI := ⟨_, rfl⟩
      rw [hbsI] at hoI hI1 hI2 hI3
      have HIM := Lib.hid (And.intro hI1 (And.intro hI2 hI3))
      have HB10 := Lib.hid (kp_call (kp_call HH.out.bel HB9.out) hb10)
      obtain ⟨G, rfl, hG1, hG2⟩ := hoI.shape (by have := hoI.cap.1; omega)
      have HOI := Lib.hid hoI
      have hcI : Hid (768 ≤ cI) := hoI.cap.1
      clear hb10 hoI hI1 hI2 hI3 hbsI HH HB9 HS
      have sN1 : IntKind.i64.wrap ((N : Int) + 1) = ((N + 1 : Nat) : Int) := by rw [IntWalk.i64_in _ (by have := HN.out; omega)]; omega
      obtain ⟨NN, hNN⟩ : ∃ NN, 128 * (N + 1) = NN := ⟨_, rfl⟩
      have sN2 : IntKind.i64.wrap (128 * ((N + 1 : Nat) : Int)) = (NN : Int) := by rw [IntWalk.i64_in _ (by have := HN.out; omega)]; omega
      obtain ⟨N1, hN1⟩ : ∃ N1, N + 1 = N1 := ⟨_, rfl⟩
      rw [hN1] at sN1 sN2
      have HNN : Hid (128 * (N + 1) = NN) := hNN
      clear hN1 hNN
      go_wp2_with fail
      go_loopw [21] (fun v21 wl => ∃ j : Nat, v21 = .int .i64 (j : Int) ∧ j ≤ 768 ∧ Hid (Below w10.heap.size w10 wl)) (fun v21 _ => 768 - (intOf v21).toNat)
      case atStart => exact ⟨0, rfl, Nat.zero_le _, Below.refl _ _⟩
      case round =>
        obtain ⟨j, rfl, hj, HBJ⟩ := hrel
        by_cases hj2 : j < 768
        · have j1 : (j : Int) < 768 := by omega
          have j0 : (0 : Int) ≤ (j : Int) := by omega
          have e8 : IntKind.i64.wrap ((j : Int) + 1) = (j : Int) + 1 := IntWalk.i64_in _ (by omega)
          obtain ⟨x, hx⟩ : ∃ x, bsI[j]? = some x := ⟨_, List.getElem?_eq_getElem (by rw [HIM.out.1]; exact hj2)⟩
          have cj := kp_cell HBJ.out (HOI.out.cellAt j x hx)
          by_cases h1 : j < 128
          · have t1 : decide ((j : Int) < 128) = true := decide_eq_true (by omega)
            obtain rfl : x = 255 := by have := HIM.out.2.1 j hj2 (.inl h1); rw [hx] at this; exact Option.some.inj this
            clear hx h1
            go_wp2_with fail
            go_roundw
            case rel => exact ⟨j + 1, by go_num, by omega, HBJ⟩
            case measure => simp [intOf]; omega
          · have t1 : decide ((j : Int) < 128) = false := decide_eq_false (by omega)
            by_cases h2 : NN ≤ j
            · have t2 : decide ((j : Int) ≥ (NN : Int)) = true := decide_eq_true (by omega)
              have t2' : (NN : Int) ≤ (j : Int) := by omega
              obtain rfl : x = 255 := by have := HIM.out.2.1 j hj2 (.inr (by have := HNN.out; omega)); rw [hx] at this; exact Option.some.inj this
              clear hx h1
              go_wp2_with fail
              go_roundw
              case rel => exact ⟨j + 1, by go_num, by omega, HBJ⟩
              case measure => simp [intOf]; omega
            · have t2 : decide ((j : Int) ≥ (NN : Int)) = false := decide_eq_false (by omega)
              have t2' : ¬ (NN : Int) ≤ (j : Int) := by omega
              clear hx h1 cj
              go_wp2_with fail
              go_roundw
              case rel => exact ⟨j + 1, by go_num, by omega, HBJ⟩
              case measure => simp [intOf]; omega
        · have j1 : ¬ (j : Int) < 768 := by omega
          have R1 : Hid (∀ W, Below wr.heap.size wr W → RB W (some ⟨G, 140, none⟩) 1 [254]) := fun W hb => by
            have h9 := rb_sub ((HOI.out.rb.below HBJ.out).below hb) 140 1 (by omega)
            have h8 : cut bsI 140 1 = [254] := by
              have hl := HIM.out.1
              unfold cut
              have h7 := HIM.out.2.2
              have hlt : 140 < bsI.length := by omega
              rw [List.getElem?_eq_getElem hlt] at h7
              rw [List.drop_eq_getElem_cons hlt, Option.some.inj h7]
              rfl
            rw [h8] at h9
            simpa using h9
          have hcI2 := hcI.out
          have HBW := Lib.hid (kp_call HB10.out HBJ.out)
          have hcI3 : ¬ cI = 140 := by omega
          have hcI4 : (141 : Int) ≤ (cI : Int) := by omega
          go_wp2_with fail
          refine calls_nm fun W hW => ?_
          have hbW : Below wr.heap.size wr W := by rw [← hW]; exact kp_alloc (Below.refl _ _) _
          have R2 : RB W (some ⟨wr.heap.size, 0, none⟩) 1 [254] := by rw [← hW]; exact rb_block (has_new _ _) rfl rfl
          refine (same7_one (some ⟨G, 140, none⟩) (some ⟨wr.heap.size, 0, none⟩) 1 _ 1 [254] W (R1.out W hbW) R2 (by omega)).mono ?_
          rintro e w12 ⟨rfl, hb12⟩
          have HB12 := Lib.hid (kp_call (kp_call HBW.out hbW) hb12)
          clear hW hbW R1 R2 hb12
          go_wp2_with fail
          refine (WK.out _ HB12.out).mono ?_
          rintro e w13 ⟨rfl, hb13⟩
          have HB13 := Lib.hid (kp_call HB12.out hb13)
          clear hb13 HB12
          go_wp2
          go_ret
          exact ⟨rfl, HB13.out⟩
end Go.Proofs.YtkajlbdiofobcaaDoor
