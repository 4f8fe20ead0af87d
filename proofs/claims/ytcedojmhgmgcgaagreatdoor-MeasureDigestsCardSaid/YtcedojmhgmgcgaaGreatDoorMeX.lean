/-
  measure: the document's ranges.
-/
import Derived.Test.YtcedojmhgmgcgaaGreatDoorMeM
import Derived.Test.YtcedojmhgmgcgaaGreatDoorMzE
import Derived.StillTailTactics
import Derived.Deep.Cut
import Derived.Great.BuildSlice
namespace Go.Proofs.YtcedojmhgmgcgaaGreatDoor
open Go.RowKit Go
set_option linter.unusedVariables false
set_option linter.unusedSimpArgs false
set_option maxRecDepth 100000
attribute [local go_sem] Oper.semAt_some
set_option maxHeartbeats 16000000 in
theorem dranges_any (A : Option Addr) (n c : Nat) (bs : List UInt8) (w : World) (hR : RB w A n bs) (hnc : n ≤ c) (hcc : c ≤ 9223372036854775807) (hn : n ≤ 16777216) :
    Calls Tryz.prog 9 #[.slice A n c] w (RangesP w bs) := by
  have C := Lib.hid (dparse_any A n c bs w hR hnc hcc hn)
  have hl := hR.1
  unfold RangesP
  clear hR
  cases hq : parseQ bs with
  | inl er =>
    have her := parse_er hq
    have HQ := Lib.hid hq
    clear hq hl
    dsimp only
    go_enter Tryz.func9, Tryz.ntmps9
    go_wp2_with (fail)
    (with_reducible refine C.out.mono ?_)
    clear C
    rintro e w1 ⟨hp, hb1⟩
    rw [HQ.out] at hp
    obtain rfl : e = .returned (.tuple #[.agg imZero, .int .i64 (er : Nat)]) := hp
    have HB1 := Lib.hid hb1
    clear hb1
    have t1 : ((er : Int) != 0) = true := by simp; omega
    go_upto_region 2 with (refine wpList_store_row rfl _ _ _ rfl w1.heap.size imZero rfl rfl _ _ (has_new w1 _) (by kernel_rfl) rfl (by simp [imZero, Value.oneCell']) ?_)
    refine wp_nm fun W3 hW3 => ?_
    have hb3 : Below w1.heap.size w1 W3 := by rw [← hW3]; exact below_setRow (kp_alloc (Below.refl _ _) _) (Nat.le_refl _) _
    have HB3 := Lib.hid (kp_call HB1.out hb3)
    clear hW3 hb3 HB1
    go_wp2_with (fail)
    go_ret2
    exact ⟨rfl, HB3.out⟩
  | inr im =>
    have hf := im_fit bs im hq
    have hch := im_chain bs im hq
    have HL := Lib.hid hl
    have HF := Lib.hid hf
    have f1 := hf.ck
    have f2 := hf.dr
    have f3 := hf.hd
    have f4 := hf.tb
    have f5 := hf.ln
    have f6 := hf.n
    have HQ := Lib.hid hq
    obtain ⟨RR, hRR⟩ : ∃ RR, riseL im.secs = RR := ⟨_, rfl⟩
    obtain ⟨la, hla⟩ : ∃ la, (chainR RR im.hdr).2 = la := ⟨_, rfl⟩
    have hla2 : la ≤ 8589934592 := by
      have := hch.2.2.1
      have h9 := hf.len
      rw [hRR, hla] at this
      unfold endM at this
      split at this <;> omega
    have hrp := riseL_perm im.secs
    rw [hRR] at hrp
    have HRR := Lib.hid hRR
    have HLA := Lib.hid hla
    have HRP := Lib.hid hrp
    clear hq hl hf hch hRR hla hrp
    dsimp only
    rw [HL.out]
    go_enter Tryz.func9, Tryz.ntmps9
    go_wp2_with (fail)
    (with_reducible refine C.out.mono ?_)
    clear C
    rintro e w1 ⟨hp, hb1⟩
    rw [HQ.out] at hp
    obtain ⟨V, m, cV, U, k, cU, xs, rfl, him⟩ := hp
    have H1 := Lib.hid (And.intro him hb1)
    have hm := him.ml
    have hm1 : m ≤ 1000 := by omega
    have HM := Lib.hid hm
    clear him hb1 hm
    go_upto_region 2 with (refine wpList_store_row rfl _ _ _ rfl w1.heap.size (imVal im V m cV U k cU) rfl rfl _ _ (has_new w1 _) (by kernel_rfl) rfl (by simp [imVal, Value.oneCell']) ?_)
    refine wp_nm fun W3 hW3 => ?_
    obtain ⟨q1, hq1⟩ : ∃ q1, w1.heap.size = q1 := ⟨_, rfl⟩
    have k3 : W3.heap[q1]? = some (.cells #[.bool im.plus, .int .i64 (im.check : Nat), .int .i64 (im.dir : Nat), .int .u32 (im.hdr : Nat), .slice V m cV, .int .u32 (im.table : Nat), .int .u32 (im.length : Nat), .slice U k cU] 30) := by rw [← hW3, ← hq1]; exact setRow_heap _ _ _ _ _ _ (has_new w1 _)
    have hb3 : Below w1.heap.size w1 W3 := by rw [← hW3]; exact below_setRow (kp_alloc (Below.refl _ _) _) (Nat.le_refl _) _
    have K3 := Lib.hid (And.intro k3 (And.intro (kp_call H1.out.2 hb3) (H1.out.1.secs.reads.below hb3 (Nat.le_refl _))))
    rw [hq1]
    clear hW3 k3 hb3 H1 hq1
    obtain ⟨z0, z1, z2, z3, z4, z5, z6, z7⟩ := cells_8 K3.out.1
    obtain ⟨c4, hc4⟩ : ∃ c4, im.check + 4 = c4 := ⟨_, rfl⟩
    obtain ⟨d8, hd8⟩ : ∃ d8, im.dir + 8 = d8 := ⟨_, rfl⟩
    have e4 : IntKind.i64.wrap ((im.check : Int) + 4) = (c4 : Int) := by rw [IntWalk.i64_in _ (by omega)]; omega
    have e5 : IntKind.i64.wrap ((im.dir : Int) + 8) = (d8 : Int) := by rw [IntWalk.i64_in _ (by omega)]; omega
    have e6 : IntKind.i64.wrap (im.hdr : Int) = (im.hdr : Int) := IntWalk.i64_in _ (by omega)
    have HC4 := Lib.hid (And.intro hc4 hd8)
    clear hc4 hd8
    go_upto_region 5 with (fail)
    refine wp_nm fun W5 hW5 => ?_
    obtain ⟨g5, hg5⟩ : ∃ g5, W3.heap.size = g5 := ⟨_, rfl⟩
    have ho5 : OwnR W5 g5 39 2 (some ⟨g5, 0, none⟩) 3 3 ((headR im).flatMap rngCells) := by
      unfold headR
      rw [← hW5, ← hg5, HC4.out.1, HC4.out.2]
      exact OwnR.lit W3 39 2 #[.int .i64 0, .int .i64 (im.check : Nat), .int .i64 (c4 : Nat), .int .i64 (im.dir : Nat), .int .i64 (d8 : Nat), .int .i64 (im.hdr : Nat)] 3 (by decide) rfl
    have hb5 : Below W3.heap.size W3 W5 := by rw [← hW5]; exact kp_alloc (Below.refl _ _) _
    have K5 : Hid (W5.heap[q1]? = some (.cells #[.bool im.plus, .int .i64 (im.check : Nat), .int .i64 (im.dir : Nat), .int .u32 (im.hdr : Nat), .slice V m cV, .int .u32 (im.table : Nat), .int .u32 (im.length : Nat), .slice U k cU] 30) ∧ OwnR W5 g5 39 2 (some ⟨g5, 0, none⟩) 3 3 ((headR im).flatMap rngCells) ∧ Below w.heap.size w W5 ∧ ReadR W5 V (im.secs.flatMap secCells)) := Lib.hid ⟨has_below K3.out.1 hb5, ho5, kp_call K3.out.2.1 hb5, K3.out.2.2.below hb5 (Nat.le_refl _)⟩
    have HWG : Hid (w.heap.size ≤ g5) := Lib.hid (by rw [← hg5]; exact K3.out.2.1.size)
    have HQG : Hid (q1 < g5) := Lib.hid (by rw [← hg5]; exact block_lt K3.out.1)
    have HG5 : Hid (g5 ≤ W5.heap.size) := Lib.hid (by rw [← hg5]; exact hb5.size)
    rw [hg5]
    clear z0 z1 z2 z3 z4 z5 z6 z7 hW5 hg5 ho5 hb5 K3 e4 e5
    obtain ⟨z0, z1, z2, z3, z4, z5, z6, z7⟩ := cells_8 K5.out.1
    have CR := Lib.hid (drise_any V m cV im.secs W5 K5.out.2.2.2 HM.out.symm hm1)
    go_wp2_with (fail)
    (with_reducible refine CR.out.mono ?_)
    clear CR
    rintro e W6 ⟨V6, m6, c6, L6, rfl, hm6, hp6, hs6, ho6, hb6⟩
    have hL6 : L6 = RR := by
      rw [← HRR.out]
      exact (chain_same im.secs L6 im.hdr hp6 hs6 (fun x hx => (HF.out.b x hx).2.2)).2 HF.out.c
    subst hL6
    obtain rfl : m6 = m := by rw [hm6, HM.out]
    have H6 : Hid (OwnR W6 g5 39 2 (some ⟨g5, 0, none⟩) 3 3 ((headR im ++ secR (L6.take 0)).flatMap rngCells) ∧ Below g5 W5 W6 ∧ OwnR W6 W5.heap.size 60 2 V6 m6 c6 (L6.flatMap secCells)) := Lib.hid ⟨by
      have h9 := K5.out.2.1.below hb6 (Nat.le_refl _)
      rw [List.take_zero]
      show OwnR W6 g5 39 2 (some ⟨g5, 0, none⟩) 3 3 ((headR im ++ []).flatMap rngCells)
      rw [List.append_nil]
      exact h9, hb6.mono HG5.out, ho6⟩
    have HRL : Hid (L6.length = m6) := Lib.hid (by rw [HRP.out.length_eq, HM.out])
    have HSB : Hid (∀ x ∈ L6, x.1 < 4294967296 ∧ x.2 < 4294967296 ∧ 0 < x.2) := Lib.hid (fun x hx => HF.out.b x (HRP.out.mem_iff.1 hx))
    have HE0 : Hid (im.hdr = (chainR (L6.take 0) im.hdr).2) := Lib.hid (by rw [List.take_zero]; rfl)
    have HU : Hid (∀ W, Below g5 W5 W → W.heap[q1]? = some (.cells #[.bool im.plus, .int .i64 (im.check : Nat), .int .i64 (im.dir : Nat), .int .u32 (im.hdr : Nat), .slice V m6 cV, .int .u32 (im.table : Nat), .int .u32 (im.length : Nat), .slice U k cU] 30)) := Lib.hid (fun W h => (h.block _ HQG.out).trans K5.out.1)
    clear hm6 hp6 hs6 ho6 hb6 z0 z1 z2 z3 z4 z5 z6 z7
    go_wp2_with (fail)
    go_loopw [6, 7, 9] (fun vl ve vi wl => ∃ (i q c' e9 : Nat) (V' : Option Addr), vl = .slice V' q c' ∧ ve = .int .i64 (e9 : Int) ∧ vi = .int .i64 (i : Int) ∧ i ≤ m6 ∧ q ≤ 1003 ∧ Hid (q = 3 + i) ∧ Hid (e9 = (chainR (L6.take i) im.hdr).2) ∧ Hid (OwnR wl g5 39 2 V' q c' ((headR im ++ secR (L6.take i)).flatMap rngCells) ∧ Below g5 W5 wl ∧ OwnR wl W5.heap.size 60 2 V6 m6 c6 (L6.flatMap secCells))) (fun _ _ vi _ => m6 - (intOf vi).toNat)
    case atStart => exact ⟨0, 3, 3, im.hdr, some ⟨g5, 0, none⟩, rfl, rfl, rfl, Nat.zero_le _, by omega, Lib.hid rfl, HE0, H6⟩
    case round =>
      obtain ⟨i, q, c', e9, V', rfl, rfl, rfl, hi, hqs, HQI, HE9, HK⟩ := hrel
      clear H6 HE0
      by_cases hlt : i < m6
      · have i1 : decide ((i : Int) < (m6 : Int)) = true := by simp; omega
        have i1n : decide (i < m6) = true := by simp; omega
        have e1 : IntKind.i64.wrap ((i : Int) + 1) = (i : Int) + 1 := IntWalk.i64_in _ (by omega)
        obtain ⟨x, hx⟩ : ∃ x, L6[i]? = some x := ⟨_, List.getElem?_eq_getElem (by have := HRL.out; omega)⟩
        obtain ⟨lx1, lx2, _⟩ := HSB.out x (List.mem_of_getElem? hx)
        have HX3 : Hid ((chainR (L6.take (i + 1)) im.hdr).2 = x.1 + x.2) := Lib.hid (by rw [List.take_add_one, hx]; exact chain_snoc _ _ _)
        have HX4 : Hid ((headR im ++ secR (L6.take (i + 1))).flatMap rngCells = (headR im ++ secR (L6.take i)).flatMap rngCells ++ rngCells (x.1, x.1 + x.2)) := Lib.hid (by
          rw [List.take_add_one, hx]
          unfold secR
          rw [List.map_append, ← List.append_assoc, List.flatMap_append]
          simp)
        obtain ⟨s0, s1⟩ := sec_at _ _ _ hx
        obtain ⟨g6, hV6, hg6, _⟩ := HK.out.2.2.shape (by have := HK.out.2.2.cap.1; omega)
        subst hV6
        have k0 := ownR_at HK.out.2.2 s0
        have k1 := ownR_at HK.out.2.2 s1
        obtain ⟨x1, x2⟩ := x
        dsimp only at k0 k1 lx1 lx2 HX3 HX4
        obtain ⟨y1, hy1⟩ : ∃ y1, x1 + x2 = y1 := ⟨_, rfl⟩
        rw [hy1] at HX3 HX4
        have e7 : IntKind.i64.wrap (x1 : Int) = (x1 : Int) := IntWalk.i64_in _ (by omega)
        have e8 : IntKind.i64.wrap (x2 : Int) = (x2 : Int) := IntWalk.i64_in _ (by omega)
        have e10 : IntKind.i64.wrap ((x1 : Int) + (x2 : Int)) = (y1 : Int) := by rw [IntWalk.i64_in _ (by omega)]; omega
        have ii : (i : Int) < (m6 : Int) := by omega
        have HY1 := Lib.hid hy1
        clear hx s0 s1 hg6 hy1
        go_upto_region 10 with (fail)
        go_quiet (fail)
        have HK2 : Hid (OwnR (wr.drewN nq) g5 39 2 V' q c' ((headR im ++ secR (L6.take i)).flatMap rngCells) ∧ Below g5 W5 (wr.drewN nq) ∧ OwnR (wr.drewN nq) W5.heap.size 60 2 (some ⟨g6, 0, none⟩) m6 c6 (L6.flatMap secCells)) := Lib.hid ⟨HK.out.1, HK.out.2.1.trans ((kp_drewN (Below.refl _ _) nq).mono (Nat.le_trans HG5.out HK.out.2.1.size)), HK.out.2.2⟩
        have k0' : (wr.drewN nq).cell? ⟨g6, i * 2, none⟩ = some (.int .u32 (x1 : Nat)) := k0
        clear HK k0 k1
        generalize wr.drewN nq = WD at *
        have H1c : ∀ u ∈ (#[.int .i64 (x1 : Nat), .int .i64 (y1 : Nat)] : Array Value).toList, u.oneCell' = true := by intro u hu; simp at hu; rcases hu with rfl | rfl <;> rfl
        have HC1 := Lib.hid H1c
        have hg5s : g5 ≤ W5.heap.size := HG5.out
        clear H1c
        go_wp2_with (at_builtin; refine wpList_appL rng_row _ _ rfl rfl rfl g5 V' q c' _ rfl (HK2.out.1.alloc _) WD.heap.size 1 1 #[.int .i64 (x1 : Nat), .int .i64 (y1 : Nat)] _ rfl (has_new _ _) rfl HC1.out (by unfold maxLen; omega) (by omega) (by have := HK2.out.2.1.size; simp; omega) ?_; intro V9 c9 W9 ho9 hg9; have FO0 := Lib.hid ho9; have FG := Lib.hid hg9; clear ho9 hg9)
        have hg99 : WD.grownBy W9 (blk V') := grown_tr (gr_allocP (World.grownBy.refl _ _) _) FG.out
        have HN : Hid (OwnR W9 g5 39 2 V9 (q + 1) c9 ((headR im ++ secR (L6.take (i + 1))).flatMap rngCells) ∧ Below g5 W5 W9 ∧ OwnR W9 W5.heap.size 60 2 (some ⟨g6, 0, none⟩) m6 c6 (L6.flatMap secCells)) := by
          rw [HX4.out]
          refine Lib.hid ⟨FO0.out, HK2.out.2.1.grown hg99 (Nat.le_trans HG5.out HK2.out.2.1.size) (fun x hx => (HK2.out.1.blk_lt hx).1), HK2.out.2.2.kept hg99 ?_⟩
          have h9 := OwnR.ne HK2.out.2.2 HK2.out.1 (by decide)
          exact h9
        clear HK2 FO0 FG hg99 HX4
        go_roundw
        case rel => exact ⟨i + 1, q + 1, c9, y1, V9, rfl, rfl, by go_num, by omega, by have := HQI.out; omega, Lib.hid (by rw [HQI.out]; omega), Lib.hid HX3.out.symm, HN⟩
        case measure => simp [intOf]; omega
      · have i1 : decide ((i : Int) < (m6 : Int)) = false := by simp; omega
        have i1n : decide (i < m6) = false := by simp; omega
        obtain rfl : i = m6 := by omega
        have htk : L6.take i = L6 := by rw [← HRL.out, List.take_length]
        rw [htk] at HK HE9
        have hel : e9 = la := by rw [HE9.out, HLA.out]
        subst hel
        obtain ⟨z0, z1, z2, z3, z4, z5, z6, z7⟩ := cells_8 (HU.out wr HK.out.2.1)
        clear htk HE9 HU
        by_cases hln : 0 < im.length
        · by_cases hlt2 : e9 < im.table
          · have t6 : decide ((0 : Int) < (im.length : Int)) = true := by simp; omega
            have t6n : decide (0 < im.length) = true := by simp; omega
            have hen : endM im n = im.table := by unfold endM; rw [if_neg (by omega)]
            have e8 : IntKind.i64.wrap (im.table : Int) = (im.table : Int) := IntWalk.i64_in _ (by omega)
            obtain ⟨en, hen2⟩ : ∃ en, im.table = en := ⟨_, rfl⟩
            rw [hen2] at hen e8 z5
            have t7 : decide ((e9 : Int) < (en : Int)) = true := by simp; omega
            have t7n : decide (e9 < en) = true := by simp; omega
            have FLL : Hid (rangesM im n = (headR im ++ secR L6) ++ [(e9, en)]) := Lib.hid (by unfold rangesM rangesL; rw [HRR.out, hen, HLA.out]; unfold tailR; rw [if_pos (by omega)])
            have H1c : ∀ u ∈ (#[.int .i64 (e9 : Nat), .int .i64 (en : Nat)] : Array Value).toList, u.oneCell' = true := by intro u hu; simp at hu; rcases hu with rfl | rfl <;> rfl
            have HC1 := Lib.hid H1c
            have hg5s : g5 ≤ W5.heap.size := HG5.out
            clear H1c hen z0 z1 z2 z3 z4 z7
            go_wp2_with (at_builtin; refine wpList_appL rng_row _ _ rfl rfl rfl g5 V' q c' _ rfl (HK.out.1.alloc _) wr.heap.size 1 1 #[.int .i64 (e9 : Nat), .int .i64 (en : Nat)] _ rfl (has_new _ _) rfl HC1.out (by unfold maxLen; omega) (by omega) (by have := HK.out.2.1.size; simp; omega) ?_; intro V9 c9 W9 ho9 hg9; have FO0 := Lib.hid ho9; have FG := Lib.hid hg9; clear ho9 hg9)
            have FO : Hid (OwnR W9 w.heap.size 39 2 V9 (q + 1) c9 ((rangesM im n).flatMap rngCells)) := by
              rw [FLL.out, List.flatMap_append]
              exact Lib.hid (FO0.out.lower HWG.out)
            have FL : Hid (q + 1 = (rangesM im n).length) := Lib.hid (by rw [FLL.out, List.length_append, List.length_append]; unfold headR secR; rw [List.length_map, HRL.out, HQI.out]; simp)
            have FB : Hid (Below w.heap.size w W9) := Lib.hid (K5.out.2.2.1.trans (((HK.out.2.1.grown (gr_allocP (World.grownBy.refl _ _) _ |> fun h => grown_tr h FG.out) (Nat.le_trans HG5.out HK.out.2.1.size) (fun x hx => (HK.out.1.blk_lt hx).1))).mono HWG.out))
            clear HK K5 FO0 FG FLL
            go_ret2
            exact ⟨⟨_, _, _, rfl, FL.out, FO.out⟩, FB.out⟩
          · have t6 : decide ((0 : Int) < (im.length : Int)) = true := by simp; omega
            have t6n : decide (0 < im.length) = true := by simp; omega
            have hen : endM im n = im.table := by unfold endM; rw [if_neg (by omega)]
            have e8 : IntKind.i64.wrap (im.table : Int) = (im.table : Int) := IntWalk.i64_in _ (by omega)
            obtain ⟨en, hen2⟩ : ∃ en, im.table = en := ⟨_, rfl⟩
            rw [hen2] at hen e8 z5
            have t7 : decide ((e9 : Int) < (en : Int)) = false := by simp; omega
            have t7n : decide (e9 < en) = false := by simp; omega
            have FLL : Hid (rangesM im n = headR im ++ secR L6) := Lib.hid (by unfold rangesM rangesL; rw [HRR.out, hen, HLA.out]; unfold tailR; rw [if_neg (by omega), List.append_nil])
            have FO : Hid (OwnR wr w.heap.size 39 2 V' q c' ((rangesM im n).flatMap rngCells)) := by
              rw [FLL.out]
              exact Lib.hid (HK.out.1.lower HWG.out)
            have FL : Hid (q = (rangesM im n).length) := Lib.hid (by rw [FLL.out, List.length_append]; unfold headR secR; rw [List.length_map, HRL.out, HQI.out]; simp)
            have FB : Hid (Below w.heap.size w wr) := Lib.hid (K5.out.2.2.1.trans (HK.out.2.1.mono HWG.out))
            clear HK K5 FLL hen z0 z1 z2 z3 z4 z7
            go_wp2_with (fail)
            go_ret2
            exact ⟨⟨_, _, _, rfl, FL.out, FO.out⟩, FB.out⟩
        · by_cases hlt2 : e9 < n
          · have t6 : decide ((0 : Int) < (im.length : Int)) = false := by simp; omega
            have t6n : decide (0 < im.length) = false := by simp; omega
            have hen : endM im n = n := by unfold endM; rw [if_pos (by omega)]
            have t7 : decide ((e9 : Int) < (n : Int)) = true := by simp; omega
            have t7n : decide (e9 < n) = true := by simp; omega
            have FLL : Hid (rangesM im n = (headR im ++ secR L6) ++ [(e9, n)]) := Lib.hid (by unfold rangesM rangesL; rw [HRR.out, hen, HLA.out]; unfold tailR; rw [if_pos (by omega)])
            have H1c : ∀ u ∈ (#[.int .i64 (e9 : Nat), .int .i64 (n : Nat)] : Array Value).toList, u.oneCell' = true := by intro u hu; simp at hu; rcases hu with rfl | rfl <;> rfl
            have HC1 := Lib.hid H1c
            have hg5s : g5 ≤ W5.heap.size := HG5.out
            clear H1c hen z0 z1 z2 z3 z4 z7
            go_wp2_with (at_builtin; refine wpList_appL rng_row _ _ rfl rfl rfl g5 V' q c' _ rfl (HK.out.1.alloc _) wr.heap.size 1 1 #[.int .i64 (e9 : Nat), .int .i64 (n : Nat)] _ rfl (has_new _ _) rfl HC1.out (by unfold maxLen; omega) (by omega) (by have := HK.out.2.1.size; simp; omega) ?_; intro V9 c9 W9 ho9 hg9; have FO0 := Lib.hid ho9; have FG := Lib.hid hg9; clear ho9 hg9)
            have FO : Hid (OwnR W9 w.heap.size 39 2 V9 (q + 1) c9 ((rangesM im n).flatMap rngCells)) := by
              rw [FLL.out, List.flatMap_append]
              exact Lib.hid (FO0.out.lower HWG.out)
            have FL : Hid (q + 1 = (rangesM im n).length) := Lib.hid (by rw [FLL.out, List.length_append, List.length_append]; unfold headR secR; rw [List.length_map, HRL.out, HQI.out]; simp)
            have FB : Hid (Below w.heap.size w W9) := Lib.hid (K5.out.2.2.1.trans (((HK.out.2.1.grown (gr_allocP (World.grownBy.refl _ _) _ |> fun h => grown_tr h FG.out) (Nat.le_trans HG5.out HK.out.2.1.size) (fun x hx => (HK.out.1.blk_lt hx).1))).mono HWG.out))
            clear HK K5 FO0 FG FLL
            go_ret2
            exact ⟨⟨_, _, _, rfl, FL.out, FO.out⟩, FB.out⟩
          · have t6 : decide ((0 : Int) < (im.length : Int)) = false := by simp; omega
            have t6n : decide (0 < im.length) = false := by simp; omega
            have hen : endM im n = n := by unfold endM; rw [if_pos (by omega)]
            have t7 : decide ((e9 : Int) < (n : Int)) = false := by simp; omega
            have t7n : decide (e9 < n) = false := by simp; omega
            have FLL : Hid (rangesM im n = headR im ++ secR L6) := Lib.hid (by unfold rangesM rangesL; rw [HRR.out, hen, HLA.out]; unfold tailR; rw [if_neg (by omega), List.append_nil])
            have FO : Hid (OwnR wr w.heap.size 39 2 V' q c' ((rangesM im n).flatMap rngCells)) := by
              rw [FLL.out]
              exact Lib.hid (HK.out.1.lower HWG.out)
            have FL : Hid (q = (rangesM im n).length) := Lib.hid (by rw [FLL.out, List.length_append]; unfold headR secR; rw [List.length_map, HRL.out, HQI.out]; simp)
            have FB : Hid (Below w.heap.size w wr) := Lib.hid (K5.out.2.2.1.trans (HK.out.2.1.mono HWG.out))
            clear HK K5 FLL hen z0 z1 z2 z3 z4 z7
            go_wp2_with (fail)
            go_ret2
            exact ⟨⟨_, _, _, rfl, FL.out, FO.out⟩, FB.out⟩
end Go.Proofs.YtcedojmhgmgcgaaGreatDoor
