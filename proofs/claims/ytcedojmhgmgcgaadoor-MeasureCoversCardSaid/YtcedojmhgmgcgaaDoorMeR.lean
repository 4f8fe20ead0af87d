/-
  measure: the statement on which bytes the ranges cover: of an image.
-/
import Derived.Test.YtcedojmhgmgcgaaDoorMeM
import Derived.Test.YtcedojmhgmgcgaaDoorMp9
import Derived.StillTailTactics
import Derived.Deep.Cut
import Derived.Test.YtcedojmhgmgcgaaDoorMeQ
namespace Go.Proofs.YtcedojmhgmgcgaaDoor
open Go.RowKit Go
set_option linter.unusedVariables false
set_option linter.unusedSimpArgs false
set_option maxRecDepth 100000
attribute [local go_sem] Oper.semAt_some
theorem load_32 {W1 : World} {g : Nat} {cs : Array Value} {t : TypeId} {fr : Nat × Nat} (hg : W1.heap[g]? = some (.cells cs t fr)) (hi : (Tryd.prog.info? 28).map (·.size) = some cs.size) : ∀ W, (∃ x : Up W1, W = x.w) → (Instr.loadAt 28 (.pointer (some ⟨g, 0, none⟩))).run Tryd.prog W = .ok (.agg cs) W := by
  rintro W ⟨x, rfl⟩
  simp only [Instr.loadAt, Instr.sureAddr, Sem.run_bind, Sem.run_pure, Result.andThen_ok]
  exact run_loadVar_row _ g t 28 cs fr _ (x.heap hg) Tryd.underlying28 rfl hi
set_option maxHeartbeats 16000000 in
theorem covers_ok (A : Option Addr) (n c : Nat) (bs : List UInt8) (w : World) (hR : RB w A n bs) (hT : Sizes w) (hnc : n ≤ c) (hcc : c ≤ 9223372036854775807) (hn : n ≤ 8192) (im : Im) (he : parseQ bs = .inr im) :
    Calls Tryd.prog 3 #[.slice A n c] w fun e w' => e = .returned (.bool true) ∧ Below w.heap.size w w' := by
  have hnb := Lib.hid hR.1
  have h64 : 64 ≤ n := by
    have h1 := (ranges_facts bs im he).1
    rw [hnb.out] at h1
    exact h1
  have himp := im_parts bs im he
  have hend := (im_chain bs im he).2.2.2
  have hlast := (im_chain bs im he).2.2.1
  have hwant := want_im bs im he
  have hrise := rise_im bs im he
  rw [hnb.out] at hend hwant hrise himp hlast
  have hck : im.check + 4 ≤ im.dir ∧ im.dir + 8 ≤ n ∧ im.length ≤ n ∧ 64 ≤ im.check := by omega
  have HW := Lib.hid hwant
  have HRI := Lib.hid hrise
  have HP0 := Lib.hid he
  clear he himp hend hlast hwant hrise
  obtain ⟨ba0, oa0, qa0, hA0, _, _, _⟩ := hR.at_ (k := 0) (by omega)
  subst hA0
  have t1 : decide ((8192 : Int) < (n : Int)) = false := by simp; omega
  have HS := Lib.hid hT
  have R1 := Lib.hid (mranges_any (some ⟨ba0, oa0, none⟩) n c bs w hR hT hnc hcc)
  have H0 := Lib.hid hR
  clear hR hT
  go_enter Tryd.func3, Tryd.ntmps3
  go_wp2_with (fail)
  (with_reducible refine R1.out.mono ?_)
  clear R1
  rintro e w1 hp
  obtain ⟨L0, m0, d0, er0, rfl, hra0⟩ := ranges_abs hp
  have H1 := Lib.hid (And.intro hra0 (And.intro (H0.out.below hra0.b) hra0.b))
  have D1 := Lib.hid (digest_any (some ⟨ba0, oa0, none⟩) n c bs w1 H1.out.2.1 (HS.out.below' H1.out.2.2) hnc hcc)
  clear hp hra0
  go_wp2_with (fail)
  (with_reducible refine D1.out.mono ?_)
  clear D1
  rintro e w3 hp
  obtain ⟨ds0, iv0, er2, rfl, hda0⟩ := digest_abs hp
  have DA0 := Lib.hid hda0
  have DSZ0 := Lib.hid hda0.sz
  have DS10 := Lib.hid hda0.s1
  have DSO0 := Lib.hid hda0.so
  clear hp hda0
  go_upto_region 5 with (first
    | (refine wpList_store_row rfl _ _ _ rfl w3.heap.size ds0 rfl rfl _ _ (has_alloc (has_new w3 (.cells zD 28)) _) DSZ0.out DS10.out DSO0.out ?_)
    | (refine wpList_store_row rfl _ _ _ rfl (w3.heap.size + 1) iv0 rfl rfl _ _ ((setRow_other _ _ _ _ (by omega)).trans (has_new' (w3.alloc (.cells zD 28)) (.cells imZero 33) _ (by simp))) DA0.out.isz DA0.out.is1 DA0.out.iso ?_))
  refine wp_nm fun w4 hw4 => ?_
  obtain ⟨q0, hq0⟩ : ∃ q0, w3.heap.size = q0 := ⟨_, rfl⟩
  have K4 : Hid (w4.heap[q0]? = some (.cells ds0 28) ∧ w4.heap[q0 + 1]? = some (.cells iv0 33) ∧ Below w3.heap.size w3 w4) := by
    rw [← hw4, ← hq0]
    exact Lib.hid ⟨(setRow_other _ _ _ _ (by omega)).trans (setRow_heap _ _ _ _ _ _ (has_alloc (has_new w3 (.cells zD 28)) _)), setRow_heap _ _ _ _ _ _ ((setRow_other _ _ _ _ (by omega)).trans (has_new' (w3.alloc (.cells zD 28)) (.cells imZero 33) _ (by simp))), below_setRow (below_setRow (kp_alloc (kp_alloc (Below.refl _ _) _) _) (Nat.le_refl _) _) (by omega) _⟩
  have HZq0 := Lib.hid hq0
  rw [hq0]
  clear hw4 hq0
  have hb14 : Below w1.heap.size w1 w4 := kp_call DA0.out.b K4.out.2.2
  have H4 := Lib.hid (And.intro (kp_call H1.out.2.2 hb14) (And.intro (H1.out.2.1.below hb14) (And.intro K4.out.1 (And.intro K4.out.2.1 hb14))))
  have HRA := Lib.hid H1.out.1
  clear hb14 K4 H1 H0
  have z0 : er0 = 0 := by
    by_cases h : er0 = 0
    · exact h
    · have := (HRA.out.no h).1; rw [HP0.out] at this; cases this
  obtain ⟨imx, hq, hn0', ho0⟩ := HRA.out.ok z0
  obtain rfl : im = imx := by rw [HP0.out] at hq; injection hq
  clear hq
  subst z0
  have h6 : er2 = 0 := by
    by_cases h : er2 = 0
    · exact h
    · have := (DA0.out.no h).1; rw [HP0.out] at this; cases this
  obtain ⟨imy, V, m, cV, U, k, cU, xs, h7, hd0, hiv, _⟩ := DA0.out.ok h6
  obtain rfl : im = imy := by rw [HP0.out] at h7; injection h7
  clear h7
  subst h6
  rw [hnb.out] at hn0' ho0
  obtain ⟨LL0, hLL0⟩ : ∃ L, rangesM im n = L := ⟨_, rfl⟩
  rw [hLL0] at hn0' ho0 HW HRI
  obtain ⟨gl0, rfl, hgl0, hgk0⟩ := ho0.shape (by have := ho0.cap.1; have := (ranges_facts bs im HP0.out).2.1; rw [hnb.out, hLL0] at this; omega)
  have HLEN0 : Hid (LL0.length = m0) := Lib.hid hn0'.symm
  have HF0 : Hid (∀ (i : Nat) (x : Nat × Nat), LL0[i]? = some x → x.1 ≤ x.2 ∧ x.2 ≤ n) := by
    have := (ranges_facts bs im HP0.out).2.2.2
    rw [hnb.out, hLL0] at this
    exact Lib.hid this
  have hm20 : m0 ≤ 2000 := by have := (ranges_facts bs im HP0.out).2.2.1; rw [hnb.out, hLL0] at this; omega
  have HDS0 := Lib.hid hd0
  have HLL0 := Lib.hid hLL0
  have HRL0 := Lib.hid (ho0.below H4.out.2.2.2.2 (Nat.le_refl _))
  have HRB0 := Lib.hid H4.out.2.1
  have k33 := H4.out.2.2.2.1
  rw [hiv] at k33
  have KI : Hid (w4.heap[q0 + 1]? = some (.cells #[.bool im.plus, .int .i64 (im.check : Nat), .int .i64 (im.dir : Nat), .int .u32 (im.hdr : Nat), .slice V m cV, .int .u32 (im.table : Nat), .int .u32 (im.length : Nat), .slice U k cU] 33) ∧ Below w.heap.size w w4 ∧ w4.heap[q0]? = some (.cells ds0 28)) := Lib.hid ⟨k33, H4.out.1, H4.out.2.2.1⟩
  clear ho0 hgl0 hgk0 hn0' hd0 hLL0 k33 hiv H4
  rw [show ((0 : Nat) : Int) = 0 from rfl]
  go_wp2_with (fail)
  go_loopw [8, 9, 10] (fun va vp vi wl => ∃ (i np cp a9 : Nat) (Ap : Option Addr), va = .int .i64 (a9 : Int) ∧ vp = .slice Ap np cp ∧ vi = .int .i64 (i : Int) ∧ i ≤ m0 ∧ np ≤ 8192 * i ∧ Hid ((i = 0 ∧ a9 = 0) ∨ ∃ z : Nat × Nat, i ≠ 0 ∧ LL0[i - 1]? = some z ∧ a9 = z.2) ∧ Hid (OwnB wl w4.heap.size Ap np cp (hashedL bs (LL0.take i)) ∧ Below w4.heap.size w4 wl)) (fun _ _ vi _ => m0 - (intOf vi).toNat)
  case atStart => exact ⟨0, 0, 0, 0, none, rfl, rfl, rfl, Nat.zero_le _, Nat.zero_le _, Lib.hid (.inl ⟨rfl, rfl⟩), Lib.hid ⟨OwnB.nil _ _, Below.refl _ _⟩⟩
  case round =>
    obtain ⟨i, np, cp, a9, Ap, rfl, rfl, rfl, hi, hnp, HA, HK⟩ := hrel
    by_cases hlt : i < m0
    · have i1 : decide ((i : Int) < (m0 : Int)) = true := by simp; omega
      have i1n : decide (i < m0) = true := by simp; omega
      have e1 : IntKind.i64.wrap ((i : Int) + 1) = (i : Int) + 1 := IntWalk.i64_in _ (by omega)
      obtain ⟨x, hx⟩ : ∃ x, LL0[i]? = some x := ⟨_, List.getElem?_eq_getElem (by have := HLEN0.out; omega)⟩
      obtain ⟨s0, s1⟩ := rng_at _ _ _ hx
      have hrl := (HRL0.out.below HK.out.2 (Nat.le_refl _))
      have k0 := ownR_at hrl s0
      have k1 := ownR_at hrl s1
      obtain ⟨f1, f2⟩ := HF0.out i x hx
      have f3 := (rise_at _ _ _ _ _ HRI.out hx).2.2 a9 HA.out
      have HN := Lib.hid (hashed_take bs _ i x hx)
      have HAN : Hid ((i + 1 = 0 ∧ x.2 = 0) ∨ ∃ z : Nat × Nat, i + 1 ≠ 0 ∧ LL0[i + 1 - 1]? = some z ∧ x.2 = z.2) := Lib.hid (.inr ⟨x, by omega, hx, rfl⟩)
      obtain ⟨lo, hi9⟩ := x
      dsimp only at k0 k1 f1 f2 f3 HAN
      obtain ⟨SA, hSA⟩ : ∃ SA : Option Addr, (if c = lo then some (⟨ba0, oa0, none⟩ : Addr) else some ⟨ba0, oa0 + lo, none⟩) = SA := ⟨_, rfl⟩
      have hRF := rb_seg (HRB0.out.below HK.out.2) hnc f1 f2
      rw [hSA] at hRF
      obtain ⟨mm, hmm⟩ : ∃ mm, hi9 - lo = mm := ⟨_, rfl⟩
      have HRF : Hid (RB wr SA mm (seg bs (lo, hi9))) := by rw [← hmm]; exact Lib.hid hRF
      have hmml : mm ≤ 8192 := by omega
      have i3 : (0 : Int) ≤ (lo : Int) := by omega
      have i4 : (lo : Int) ≤ (hi9 : Int) := by omega
      have i5 : (hi9 : Int) ≤ (c : Int) := by omega
      have i6 : (lo : Int) ≤ (c : Int) := by omega
      have hisz : i ≤ 2000 := by omega
      have u1 : decide ((lo : Int) < (a9 : Int)) = false := by simp; omega
      have u1n : decide (lo < a9) = false := by simp; omega
      have u2 : decide ((hi9 : Int) < (lo : Int)) = false := by simp; omega
      have u2n : decide (hi9 < lo) = false := by simp; omega
      have u3 : decide ((n : Int) < (hi9 : Int)) = false := by simp; omega
      have u3n : decide (n < hi9) = false := by simp; omega
      have HCL : Hid (∀ q, (wr.drewN q).cell? ⟨gl0, i * 2, none⟩ = some (.int .i64 (lo : Nat)) ∧ (wr.drewN q).cell? ⟨gl0, i * 2 + 1, none⟩ = some (.int .i64 (hi9 : Nat)) ∧ RB (wr.drewN q) SA mm (seg bs (lo, hi9)) ∧ OwnB (wr.drewN q) w4.heap.size Ap np cp (hashedL bs (LL0.take i)) ∧ Below w4.heap.size w4 (wr.drewN q)) := Lib.hid (fun q => ⟨k0, k1, HRF.out, HK.out.1, kp_drewN HK.out.2 q⟩)
      have HMM := Lib.hid hmm
      clear hrl s0 s1 hRF hx HRF
      go_upto_region 12 with (fail)
      go_quiet (fail)
      have HC9 := Lib.hid (HCL.out nq)
      generalize wr.drewN nq = wq at *
      clear HCL k0 k1 HK HA u1 u1n u2 u2n u3 u3n f3
      obtain ⟨k0, k1, _⟩ := HC9.out
      try rw [hmm]
      go_wp2_with (at_builtin; refine wpList_apn _ _ rfl rfl rfl w4.heap.size Ap np cp _ rfl HC9.out.2.2.2.1 SA mm _ _ rfl HC9.out.2.2.1 (by omega) (by have := HC9.out.2.2.2.2.size; exact this) ?_; intro A' c' w' ho' hg'; have HO' := Lib.hid ho'; have HB' := Lib.hid (show Below w4.heap.size w4 w' from (HC9.out.2.2.2.2).grown hg' (by have := HC9.out.2.2.2.2.size; exact this) (fun k hk => (HC9.out.2.2.2.1.blk_lt hk).1)); clear ho' hg' hmm hSA)
      go_roundw
      case rel => exact ⟨i + 1, np + mm, c', hi9, A', rfl, rfl, by go_num, by omega, by omega, HAN, Lib.hid ⟨by rw [HN.out]; exact HO'.out, HB'.out⟩⟩
      case measure => simp [intOf]; omega
    · have i1 : decide ((i : Int) < (m0 : Int)) = false := by simp; omega
      have i1n : decide (i < m0) = false := by simp; omega
      obtain rfl : i = m0 := by omega
      have htk : LL0.take i = LL0 := by rw [← HLEN0.out, List.take_length]
      rw [htk] at HK
      clear htk i1 hlt hi HA
      generalize hWX : wr = WX at *
      have HK0 := Lib.hid HK.out
      clear HK hWX i1n hnp
      have HRBx := Lib.hid (HRB0.out.below HK0.out.2)
      have HKI := Lib.hid (And.intro (has_below KI.out.1 HK0.out.2) (And.intro (kp_call KI.out.2.1 HK0.out.2) (has_below KI.out.2.2 HK0.out.2)))
      obtain ⟨z0, z1, z2, z3, z4, z5, z6, z7⟩ := cells_8 HKI.out.1
      obtain ⟨en, hen⟩ : ∃ en, n - im.length = en := ⟨_, rfl⟩
      have e1 : IntKind.i64.wrap (im.length : Int) = (im.length : Int) := IntWalk.i64_in _ (by omega)
      have e2 : IntKind.i64.wrap ((n : Int) - (im.length : Int)) = (en : Int) := by rw [IntWalk.i64_in _ (by omega)]; omega
      have henn : en ≤ n := by omega
      have HEN := Lib.hid hen
      clear hen
      go_upto_region 17 with (fail)
      clear z0 z1 z2 z3 z4 z5 z6 z7 e1 e2
      go_wp2_with (fail)
      go_loopw [12, 13] (fun vp vi wl => ∃ (i nq cq : Nat) (Aq : Option Addr), vp = .slice Aq nq cq ∧ vi = .int .i64 (i : Int) ∧ i ≤ en ∧ nq ≤ i ∧ Hid (OwnB wl WX.heap.size Aq nq cq (wantL bs im.check im.dir i) ∧ Below WX.heap.size WX wl)) (fun _ vi _ => en - (intOf vi).toNat)
      case atStart => exact ⟨0, 0, 0, none, rfl, rfl, Nat.zero_le _, Nat.le_refl _, Lib.hid ⟨OwnB.nil _ _, Below.refl _ _⟩⟩
      case round =>
        obtain ⟨i, nq, cq, Aq, rfl, rfl, hi, hnq, HK⟩ := hrel
        by_cases hlt : i < en
        · have i1 : decide ((i : Int) < (en : Int)) = true := by simp; omega
          have i1n : decide (i < en) = true := by simp; omega
          have e1 : IntKind.i64.wrap ((i : Int) + 1) = (i : Int) + 1 := IntWalk.i64_in _ (by omega)
          obtain ⟨c4, hc4⟩ : ∃ c4, im.check + 4 = c4 := ⟨_, rfl⟩
          obtain ⟨d8, hd8⟩ : ∃ d8, im.dir + 8 = d8 := ⟨_, rfl⟩
          have e4 : IntKind.i64.wrap ((im.check : Int) + 4) = (c4 : Int) := by rw [IntWalk.i64_in _ (by omega)]; omega
          have e5 : IntKind.i64.wrap ((im.dir : Int) + 8) = (d8 : Int) := by rw [IntWalk.i64_in _ (by omega)]; omega
          obtain ⟨z0, z1, z2, z3, z4, z5, z6, z7⟩ := cells_8 (has_below HKI.out.1 HK.out.2)
          obtain ⟨bb, ob, qx, hAx, hbb, hqx, kx⟩ := (HRBx.out.below HK.out.2).at_ (k := i) (by omega)
          cases hAx
          have HKP : Hid (hashB im.check im.dir i = true → wantL bs im.check im.dir (i + 1) = wantL bs im.check im.dir i ++ [qx]) := by
            refine Lib.hid (fun h => ?_)
            have hcut : cut bs i 1 = [qx] := by
              unfold cut
              obtain ⟨hl, hq⟩ := List.getElem?_eq_some_iff.1 hqx
              rw [List.drop_eq_getElem_cons hl, hq]
              rfl
            show (if hashB im.check im.dir i = true then _ else _) = _
            rw [if_pos h, hcut]
          have HSK : Hid (hashB im.check im.dir i = false → wantL bs im.check im.dir (i + 1) = wantL bs im.check im.dir i) := Lib.hid (fun h => by
            show (if hashB im.check im.dir i = true then _ else _) = _
            rw [h]; rfl)
          have CA := rb_cells (W := wr.alloc (.cells #[.int .u8 (qx.toNat : Int)] 5)) (p := wr.heap.size) (bs := [qx]) (cs := #[.int .u8 (qx.toNat : Int)]) (has_new _ _) rfl
          have HCA := Lib.hid CA
          clear hqx CA
          rcases (show (i < im.check) ∨ (im.check ≤ i ∧ i < im.check + 4) ∨ (im.check + 4 ≤ i ∧ i < im.dir) ∨ (im.dir ≤ i ∧ i < im.dir + 8) ∨ (im.dir + 8 ≤ i) by omega) with h9 | h9 | h9 | h9 | h9
          · have x1 : decide ((im.check : Int) ≤ (i : Int)) = false := by simp; omega
            have x1n : decide (im.check ≤ i) = false := by simp; omega
            have x2 : decide ((i : Int) < (c4 : Int)) = true := by simp; omega
            have x2n : decide (i < c4) = true := by simp; omega
            have x3 : decide ((im.dir : Int) ≤ (i : Int)) = false := by simp; omega
            have x3n : decide (im.dir ≤ i) = false := by simp; omega
            have x4 : decide ((i : Int) < (d8 : Int)) = true := by simp; omega
            have x4n : decide (i < d8) = true := by simp; omega
            have hh : hashB im.check im.dir i = true := by unfold hashB; rw [hc4, hd8, x1n, x2n, x3n, x4n]; rfl
            have HW1 := Lib.hid (HKP.out hh)
            clear hc4 hd8 hh HKP HSK
            go_wp2_with (at_builtin; refine wpList_apn _ _ rfl rfl rfl WX.heap.size Aq nq cq _ rfl (HK.out.1.alloc _) (some ⟨wr.heap.size, 0, none⟩) 1 1 [qx] rfl HCA.out (by omega) (by have := HK.out.2.size; simp; omega) ?_; intro A' c' w' ho' hg'; have HO' := Lib.hid ho'; have HB' := Lib.hid (show Below WX.heap.size WX w' from (kp_alloc HK.out.2 _).grown hg' (kp_alloc HK.out.2 _).size (fun k hk => (HK.out.1.blk_lt hk).1)); clear ho' hg')
            go_roundw
            case rel => exact ⟨i + 1, nq + 1, c', A', rfl, by go_num, by omega, by omega, Lib.hid ⟨by rw [HW1.out]; exact HO'.out, HB'.out⟩⟩
            case measure => simp [intOf]; omega
          · have x1 : decide ((im.check : Int) ≤ (i : Int)) = true := by simp; omega
            have x1n : decide (im.check ≤ i) = true := by simp; omega
            have x2 : decide ((i : Int) < (c4 : Int)) = true := by simp; omega
            have x2n : decide (i < c4) = true := by simp; omega
            have x3 : decide ((im.dir : Int) ≤ (i : Int)) = false := by simp; omega
            have x3n : decide (im.dir ≤ i) = false := by simp; omega
            have x4 : decide ((i : Int) < (d8 : Int)) = true := by simp; omega
            have x4n : decide (i < d8) = true := by simp; omega
            have hh : hashB im.check im.dir i = false := by unfold hashB; rw [hc4, hd8, x1n, x2n, x3n, x4n]; rfl
            have HW1 := Lib.hid (HSK.out hh)
            clear hc4 hd8 hh HKP HSK
            go_wp2_with (fail)
            go_roundw
            case rel => exact ⟨i + 1, nq, cq, Aq, rfl, by go_num, by omega, by omega, Lib.hid ⟨by rw [HW1.out]; exact HK.out.1, HK.out.2⟩⟩
            case measure => simp [intOf]; omega
          · have x1 : decide ((im.check : Int) ≤ (i : Int)) = true := by simp; omega
            have x1n : decide (im.check ≤ i) = true := by simp; omega
            have x2 : decide ((i : Int) < (c4 : Int)) = false := by simp; omega
            have x2n : decide (i < c4) = false := by simp; omega
            have x3 : decide ((im.dir : Int) ≤ (i : Int)) = false := by simp; omega
            have x3n : decide (im.dir ≤ i) = false := by simp; omega
            have x4 : decide ((i : Int) < (d8 : Int)) = true := by simp; omega
            have x4n : decide (i < d8) = true := by simp; omega
            have hh : hashB im.check im.dir i = true := by unfold hashB; rw [hc4, hd8, x1n, x2n, x3n, x4n]; rfl
            have HW1 := Lib.hid (HKP.out hh)
            clear hc4 hd8 hh HKP HSK
            go_wp2_with (at_builtin; refine wpList_apn _ _ rfl rfl rfl WX.heap.size Aq nq cq _ rfl (HK.out.1.alloc _) (some ⟨wr.heap.size, 0, none⟩) 1 1 [qx] rfl HCA.out (by omega) (by have := HK.out.2.size; simp; omega) ?_; intro A' c' w' ho' hg'; have HO' := Lib.hid ho'; have HB' := Lib.hid (show Below WX.heap.size WX w' from (kp_alloc HK.out.2 _).grown hg' (kp_alloc HK.out.2 _).size (fun k hk => (HK.out.1.blk_lt hk).1)); clear ho' hg')
            go_roundw
            case rel => exact ⟨i + 1, nq + 1, c', A', rfl, by go_num, by omega, by omega, Lib.hid ⟨by rw [HW1.out]; exact HO'.out, HB'.out⟩⟩
            case measure => simp [intOf]; omega
          · have x1 : decide ((im.check : Int) ≤ (i : Int)) = true := by simp; omega
            have x1n : decide (im.check ≤ i) = true := by simp; omega
            have x2 : decide ((i : Int) < (c4 : Int)) = false := by simp; omega
            have x2n : decide (i < c4) = false := by simp; omega
            have x3 : decide ((im.dir : Int) ≤ (i : Int)) = true := by simp; omega
            have x3n : decide (im.dir ≤ i) = true := by simp; omega
            have x4 : decide ((i : Int) < (d8 : Int)) = true := by simp; omega
            have x4n : decide (i < d8) = true := by simp; omega
            have hh : hashB im.check im.dir i = false := by unfold hashB; rw [hc4, hd8, x1n, x2n, x3n, x4n]; rfl
            have HW1 := Lib.hid (HSK.out hh)
            clear hc4 hd8 hh HKP HSK
            go_wp2_with (fail)
            go_roundw
            case rel => exact ⟨i + 1, nq, cq, Aq, rfl, by go_num, by omega, by omega, Lib.hid ⟨by rw [HW1.out]; exact HK.out.1, HK.out.2⟩⟩
            case measure => simp [intOf]; omega
          · have x1 : decide ((im.check : Int) ≤ (i : Int)) = true := by simp; omega
            have x1n : decide (im.check ≤ i) = true := by simp; omega
            have x2 : decide ((i : Int) < (c4 : Int)) = false := by simp; omega
            have x2n : decide (i < c4) = false := by simp; omega
            have x3 : decide ((im.dir : Int) ≤ (i : Int)) = true := by simp; omega
            have x3n : decide (im.dir ≤ i) = true := by simp; omega
            have x4 : decide ((i : Int) < (d8 : Int)) = false := by simp; omega
            have x4n : decide (i < d8) = false := by simp; omega
            have hh : hashB im.check im.dir i = true := by unfold hashB; rw [hc4, hd8, x1n, x2n, x3n, x4n]; rfl
            have HW1 := Lib.hid (HKP.out hh)
            clear hc4 hd8 hh HKP HSK
            go_wp2_with (at_builtin; refine wpList_apn _ _ rfl rfl rfl WX.heap.size Aq nq cq _ rfl (HK.out.1.alloc _) (some ⟨wr.heap.size, 0, none⟩) 1 1 [qx] rfl HCA.out (by omega) (by have := HK.out.2.size; simp; omega) ?_; intro A' c' w' ho' hg'; have HO' := Lib.hid ho'; have HB' := Lib.hid (show Below WX.heap.size WX w' from (kp_alloc HK.out.2 _).grown hg' (kp_alloc HK.out.2 _).size (fun k hk => (HK.out.1.blk_lt hk).1)); clear ho' hg')
            go_roundw
            case rel => exact ⟨i + 1, nq + 1, c', A', rfl, by go_num, by omega, by omega, Lib.hid ⟨by rw [HW1.out]; exact HO'.out, HB'.out⟩⟩
            case measure => simp [intOf]; omega
        · have i1 : decide ((i : Int) < (en : Int)) = false := by simp; omega
          have i1n : decide (i < en) = false := by simp; omega
          obtain rfl : i = en := by omega
          have hwe : wantL bs im.check im.dir i = hashedL bs LL0 := by rw [← HEN.out, HW.out]
          rw [hwe] at HK
          have hlen := HK.out.1.len
          have hlen0 := HK0.out.1.len
          have H8 := Lib.hid (And.intro (has_below HKI.out.2.2 HK.out.2) (kp_call HKI.out.2.1 HK.out.2))
          have RBP := Lib.hid (HK0.out.1.below HK.out.2 (Nat.le_refl _)).rb
          have RBQ := Lib.hid HK.out.1.rb
          have EQ := Lib.hid (fun x : Up wr => (eq_any Ap Aq np nq cp cq _ _ x.w (RBP.out.below x.b) (RBQ.out.below x.b)).mono (R' := fun e w' => e = .returned (.bool true) ∧ x.w = w') fun e w' h => ⟨by rw [h.1]; simp, h.2⟩)
          have hdq : ((sumQ ((hashedL bs LL0).map UInt8.toNat) nq).map v8).toArray = ds0 := by
            rw [HDS0.out]
            unfold digQ
            rw [hnb.out, HLL0.out, hlen]
          have SU := Lib.hid (fun x : Up wr => dsum_any Aq nq cq _ x.w (RBQ.out.below x.b) (by omega))
          rw [hdq] at SU
          have WK := Lib.hid (fun x : Up wr => works17_any x.w (HS.out.below' (Below.up x H8.out.2 H8.out.2.size)))
          have heq : ∀ W, (Op.equalIn 10000 28 (.agg ds0) (.agg ds0)).run Tryd.prog W = .ok true W := fun W => by rw [← hdq]; exact dig_same _ (sumQ_len _ _) W
          have hld := Lib.hid (load_32 H8.out.1 DSZ0.out)
          have END : Hid (∀ x : Up wr, Below w.heap.size w x.w) := Lib.hid (fun x => Below.up x H8.out.2 H8.out.2.size)
          clear hdq hwe hlen hlen0 i1 hlt
          go_wp2_with (fail)
          refine wp_region_up (by kernel_rfl) (by kernel_rfl) ?_
          repeat (first
            | go_big_quiet_step (first
              | (go_at_call 11; exact Up.same (EQ.out _))
              | (go_at_call 12; exact Up.calls (SU.out _))
              | (go_at_call 8; exact Up.calls (WK.out _)))
            | (refine quiet_load rfl _ _ rfl q0 rfl ds0 hld.out ?_; simp only [Act.put, List.setIfInBounds_toArray, List.set_cons_zero, List.set_cons_succ]))
          refine wpQuiet_nil ?_
          rintro _ ⟨x9, rfl⟩
          go_wp2_with (fail)
          go_ret
          exact ⟨rfl, END.out _⟩
theorem covers_row (A : Option Addr) (n c : Nat) (bs : List UInt8) (w : World) (h : IsBs w A n c bs) (hT : Sizes w) :
    Calls Tryd.prog 3 #[.slice A n c] w fun e w' => e = .returned (.bool true) ∧ Below w.heap.size w w' := by
  have hm := h.max
  unfold maxLen at hm
  by_cases hb : 8192 < n
  · exact covers_big A n c w hT hb
  · cases hq : parseQ bs with
    | inl er => exact covers_err A n c bs w h.rb hT h.le (by omega) (by omega) er hq
    | inr im => exact covers_ok A n c bs w h.rb hT h.le (by omega) (by omega) im hq
end Go.Proofs.YtcedojmhgmgcgaaDoor
