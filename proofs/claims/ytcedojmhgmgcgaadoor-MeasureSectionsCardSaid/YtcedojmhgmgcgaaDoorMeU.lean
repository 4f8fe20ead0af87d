/-
  measure: the statement on the ranges of the sections: the row.
-/
import Derived.Test.YtcedojmhgmgcgaaDoorMeM
import Derived.Test.YtcedojmhgmgcgaaDoorMp9
import Derived.StillTailTactics
import Derived.Deep.Cut
import Derived.Test.YtcedojmhgmgcgaaDoorMeT
namespace Go.Proofs.YtcedojmhgmgcgaaDoor
open Go.RowKit Go
set_option linter.unusedVariables false
set_option linter.unusedSimpArgs false
set_option maxRecDepth 100000
attribute [local go_sem] Oper.semAt_some
set_option maxHeartbeats 32000000 in
theorem sections_row (x : Shp) (w : World) (hx : IsShp w x) (hT : Sizes w) :
    Calls Tryd.prog 5 #[x.val] w fun e w' => e = .returned (.bool true) ∧ Below w.heap.size w w' := by
  unfold Shp.val
  have HX := Lib.hid hx
  have HS := Lib.hid hT
  clear hx hT
  go_enter Tryd.func5, Tryd.ntmps5
  go_upto_region 1 with (fail)
  refine wp_nm fun W0 hW0 => ?_
  have k0 : W0.heap[w.heap.size]? = some (.cells x.cells 42) := by rw [← hW0]; exact has_new w _
  have hb0 : Below w.heap.size w W0 := by rw [← hW0]; exact kp_alloc (Below.refl _ _) _
  have KX := Lib.hid (And.intro k0 hb0)
  have CB := Lib.hid (brought_any x W0 (HX.out.r.below hb0) HX.out.lc HX.out.cc HX.out.bc HX.out.gc HX.out.bn)
  clear hW0 k0 hb0
  go_wp2_with (refine wpList_load_row rfl _ _ rfl w.heap.size rfl _ _ _ _ KX.out.1 Tryd.underlying42 rfl (by kernel_rfl) ?_)
  (with_reducible refine CB.out.mono ?_)
  clear CB
  rintro e W2 ⟨y, rfl, hy, hb2, hpl, hst, hfi, hbe, hor, hbo, hsi, hgc⟩
  have hB := brd HX.out hy hst hfi hbe hor hbo hsi hgc
  have H2 := Lib.hid (And.intro hy (And.intro (kp_call KX.out.2 hb2) (And.intro hB (And.intro (has_below KX.out.1 hb2) hpl))))
  clear hy hb2 hpl hst hfi hbe hor hbo hsi hB hgc
  go_upto_region 2 with (refine wpList_store_row rfl _ _ _ rfl W2.heap.size y.cells rfl rfl _ _ (has_new W2 _) (by kernel_rfl) rfl (by simp [Shp.cells, Value.oneCell']) ?_)
  refine wp_nm fun W3 hW3 => ?_
  have k3 : W3.heap[W2.heap.size]? = some (.cells y.cells 42) := by rw [← hW3]; exact setRow_heap _ _ _ _ _ _ (has_new W2 _)
  have hb3 : Below W2.heap.size W2 W3 := by rw [← hW3]; exact below_setRow (kp_alloc (Below.refl _ _) _) (Nat.le_refl _) _
  have H3 := Lib.hid (And.intro k3 (And.intro (H2.out.1.below hb3) (And.intro (kp_call H2.out.2.1 hb3) (And.intro H2.out.2.2.1 (And.intro (has_below H2.out.2.2.2.1 hb3) H2.out.2.2.2.2)))))
  have HW2 := Lib.hid H2.out.2.1.size
  have HYB := Lib.hid (And.intro H2.out.1 hb3)
  have HKX := Lib.hid H2.out.2.2.2.1
  have HBW := Lib.hid H2.out.2.1
  clear hW3 k3 hb3 KX H2
  have C := Lib.hid (writeD_any y W3 H3.out.2.1 H3.out.2.2.2.1.s1 H3.out.2.2.2.1.s2 H3.out.2.2.2.1.s3 H3.out.2.2.2.1.s4)
  obtain ⟨t, l, hM, hlen⟩ := write_made y.plus y.stub y.fill (y.bod.map fun z => z.2.2.2) y.ord y.beh (y.sig.map fun z => z.2.2.2) H3.out.2.2.2.1.bd
  obtain ⟨bs, hbs⟩ : ∃ bs, writeL y.plus y.stub y.fill (y.bod.map fun z => z.2.2.2) y.ord y.beh (y.sig.map fun z => z.2.2.2) = bs := ⟨_, rfl⟩
  rw [hbs] at C hM hlen
  have HM := Lib.hid (And.intro hM hlen)
  have HBS := Lib.hid hbs
  clear hM hlen hbs
  go_wp2_with (refine wpList_load_row rfl _ _ rfl W2.heap.size rfl _ _ _ _ H3.out.1 Tryd.underlying42 rfl (by kernel_rfl) ?_)
  (with_reducible refine C.out.mono ?_)
  rintro e W4 ⟨A, n, c, rfl, ho4, hb4⟩
  clear C
  have hb4' := kp_call H3.out.2.2.1 hb4
  have hcap := ho4.row.cap
  have hnc : n ≤ c := hcap.1
  have hcc : c ≤ 9223372036854775807 := by have := hcap.2; unfold maxLen at this; omega
  have H4 := Lib.hid (And.intro (has_below H3.out.1 hb4) (And.intro (ho4.lower H3.out.2.2.1.size) (And.intro hb4' (And.intro H3.out.2.2.2.1 ho4.len))))
  obtain ⟨gx, hgx⟩ : ∃ gx, W2.heap.size = gx := ⟨_, rfl⟩
  have HY4 := Lib.hid (H3.out.2.1.below hb4)
  rw [hgx] at H4 ⊢
  clear ho4 hb4 hb4' hcap H3 hgx HW2 HYB HKX HBW
  obtain ⟨im, him⟩ : ∃ im, imL y.plus (peL y.stub) (y.bod.map fun z => z.2.2.2).length (hdL y.plus y.stub y.fill (y.bod.map fun z => z.2.2.2).length) (y.bod.map fun z => z.2.2.2) (ordL (y.bod.map fun z => z.2.2.2).length y.ord) t l (y.sig.map fun z => z.2.2.2) = im := ⟨_, rfl⟩
  have hpar : parseQ bs = .inr im := by
    have h9 := HM.out.1.parse
    rw [if_neg (by have := H4.out.2.2.2.1.g8; have := H4.out.2.2.2.1.ng; omega), him] at h9
    exact h9
  have hbl : bs.length = n := H4.out.2.2.2.2
  have hnb : n ≤ 100000 := by have := HM.out.1.big; omega
  have himp := im_parts bs im hpar
  obtain ⟨ch1, ch2, ch3, ch4⟩ := im_chain bs im hpar
  have hfit := im_fit bs im hpar
  rw [hbl] at ch3 ch4 himp hfit
  have hck : im.check + 4 ≤ im.dir ∧ im.dir + 8 ≤ im.hdr ∧ im.hdr ≤ n ∧ 64 ≤ im.check ∧ im.length ≤ n := by omega
  have hsm := hfit.n
  have HSB := Lib.hid hfit.b
  obtain ⟨RR, hRR⟩ : ∃ RR, riseL im.secs = RR := ⟨_, rfl⟩
  obtain ⟨r0, r1, r2, r3, r4, r5⟩ := rangesM_at im n
  obtain ⟨LL, hLL⟩ : ∃ LL, rangesM im n = LL := ⟨_, rfl⟩
  obtain ⟨en, hen⟩ : ∃ en, endM im n = en := ⟨_, rfl⟩
  have hRp := riseL_perm im.secs
  rw [hRR] at ch1 ch2 ch3 r3 r4 r5 hRp
  rw [hLL] at r0 r1 r2 r3 r4 r5
  rw [hen] at ch3 ch4 r4 r5
  obtain ⟨la, hla⟩ : ∃ la, (chainR RR im.hdr).2 = la := ⟨_, rfl⟩
  rw [hla] at ch3 r4 r5
  have HR5 := Lib.hid (And.intro r3 (And.intro r4 r5))
  have HCH := Lib.hid (And.intro ch1 (And.intro hRp hla))
  have HRL := Lib.hid hRp.length_eq
  have HP := Lib.hid hpar
  have HBL := Lib.hid hbl
  have HLLh := Lib.hid hLL
  have S4 := Lib.hid (And.intro H4.out.2.1 H4.out.2.2.1)
  have R1 := Lib.hid (mranges_any A n c bs W4 S4.out.1.rb (HS.out.below' S4.out.2) hnc hcc)
  clear him hpar hbl himp ch1 ch2 hfit hRR r3 r4 r5 hLL hen hRp hla H4 HY4 HM HBS
  go_wp2_with (fail)
  (with_reducible refine R1.out.mono ?_)
  clear R1
  rintro e W5 hp
  unfold RangesP at hp
  rw [HP.out] at hp
  obtain ⟨⟨L0, m0, d0, rfl, hm0, ho0⟩, hb5⟩ := hp
  rw [HBL.out, HLLh.out] at hm0 ho0
  have hm3 : 3 ≤ m0 := by
    have := (List.getElem?_eq_some_iff.1 r2).1
    omega
  obtain ⟨gl, rfl, _, _⟩ := ho0.shape (by have := ho0.cap.1; omega)
  have S5 := Lib.hid (And.intro (S4.out.1.below hb5 (Nat.le_refl _)) (And.intro (kp_call S4.out.2 hb5) ho0))
  have D1 := Lib.hid (digest_any A n c bs W5 S5.out.1.rb (HS.out.below' S5.out.2.1) hnc hcc)
  have HM0 := Lib.hid hm0
  clear hb5 ho0 hm0 S4
  go_wp2_with (fail)
  (with_reducible refine D1.out.mono ?_)
  clear D1
  rintro e W6 hp
  obtain ⟨ds0, iv0, er2, rfl, hda0⟩ := digest_abs hp
  have DA0 := Lib.hid hda0
  have DSZ0 := Lib.hid hda0.sz
  have DS10 := Lib.hid hda0.s1
  have DSO0 := Lib.hid hda0.so
  clear hp hda0
  go_upto_region 5 with (first
    | (refine wpList_store_row rfl _ _ _ rfl W6.heap.size ds0 rfl rfl _ _ (has_alloc (has_new W6 (.cells zD 28)) _) DSZ0.out DS10.out DSO0.out ?_)
    | (refine wpList_store_row rfl _ _ _ rfl (W6.heap.size + 1) iv0 rfl rfl _ _ ((setRow_other _ _ _ _ (by omega)).trans (has_new' (W6.alloc (.cells zD 28)) (.cells imZero 33) _ (by simp))) DA0.out.isz DA0.out.is1 DA0.out.iso ?_))
  refine wp_nm fun W7 hW7 => ?_
  obtain ⟨q0, hq0⟩ : ∃ q0, W6.heap.size = q0 := ⟨_, rfl⟩
  have K7 : Hid (W7.heap[q0]? = some (.cells ds0 28) ∧ W7.heap[q0 + 1]? = some (.cells iv0 33) ∧ Below W6.heap.size W6 W7) := by
    rw [← hW7, ← hq0]
    exact Lib.hid ⟨(setRow_other _ _ _ _ (by omega)).trans (setRow_heap _ _ _ _ _ _ (has_alloc (has_new W6 (.cells zD 28)) _)), setRow_heap _ _ _ _ _ _ ((setRow_other _ _ _ _ (by omega)).trans (has_new' (W6.alloc (.cells zD 28)) (.cells imZero 33) _ (by simp))), below_setRow (below_setRow (kp_alloc (kp_alloc (Below.refl _ _) _) _) (Nat.le_refl _) _) (by omega) _⟩
  have HZq0 := Lib.hid hq0
  rw [hq0]
  clear hW7 hq0
  have h6 : er2 = 0 := by
    by_cases h : er2 = 0
    · exact h
    · have := (DA0.out.no h).1; rw [HP.out] at this; cases this
  obtain ⟨imy, V, m, cV, U, k, cU, xs, h7, hd0, hiv, hio⟩ := DA0.out.ok h6
  obtain rfl : im = imy := by rw [HP.out] at h7; injection h7
  clear h7 hd0
  subst h6
  have hm : m = im.secs.length := hio.ml
  have hb57 : Below W5.heap.size W5 W7 := kp_call DA0.out.b K7.out.2.2
  have k33 := K7.out.2.1
  rw [hiv] at k33
  have KI : Hid (W7.heap[q0 + 1]? = some (.cells #[.bool im.plus, .int .i64 (im.check : Nat), .int .i64 (im.dir : Nat), .int .u32 (im.hdr : Nat), .slice V m cV, .int .u32 (im.table : Nat), .int .u32 (im.length : Nat), .slice U k cU] 33) ∧ Below w.heap.size w W7 ∧ OwnR W7 W4.heap.size 36 2 (some ⟨gl, 0, none⟩) m0 d0 (LL.flatMap rngCells) ∧ ReadR W7 V (im.secs.flatMap secCells)) := Lib.hid ⟨k33, kp_call S5.out.2.1 hb57, S5.out.2.2.below hb57 (Nat.le_refl _), hio.secs.reads.below K7.out.2.2 (Nat.le_refl _)⟩
  have HMM := Lib.hid hm
  have hm1k : m ≤ 1000 := by omega
  have hRlen : Hid (RR.length = m) := Lib.hid (by rw [HRL.out, hm])
  have hm0l : 3 + m ≤ m0 := by
    rcases Nat.lt_or_ge la en with h | h
    · have := (HR5.out.2.1 h).1; have := HM0.out; omega
    · have := HR5.out.2.2 (by omega); have := HM0.out; omega
  clear k33 hiv hio hb57 K7 S5 hm
  rw [show ((0 : Nat) : Int) = 0 from rfl]
  obtain ⟨z0, z1, z2, z3, z4, z5, z6, z7⟩ := cells_8 KI.out.1
  obtain ⟨m3, hm3'⟩ : ∃ m3, 3 + m = m3 := ⟨_, rfl⟩
  have e1 : IntKind.i64.wrap ((3 : Int) + (m : Int)) = (m3 : Int) := by rw [IntWalk.i64_in _ (by omega)]; omega
  have u1 : decide ((m0 : Int) < (m3 : Int)) = false := by simp; omega
  have u1n : decide (m0 < m3) = false := by simp; omega
  obtain ⟨c4, hc4⟩ : ∃ c4, im.check + 4 = c4 := ⟨_, rfl⟩
  obtain ⟨d8, hd8⟩ : ∃ d8, im.dir + 8 = d8 := ⟨_, rfl⟩
  have e4 : IntKind.i64.wrap ((im.check : Int) + 4) = (c4 : Int) := by rw [IntWalk.i64_in _ (by omega)]; omega
  have e5 : IntKind.i64.wrap ((im.dir : Int) + 8) = (d8 : Int) := by rw [IntWalk.i64_in _ (by omega)]; omega
  have e6 : IntKind.i64.wrap (im.hdr : Int) = (im.hdr : Int) := IntWalk.i64_in _ (by omega)
  rw [hc4] at r1
  rw [hd8] at r2
  obtain ⟨a0, b0⟩ := rng_at _ _ _ r0
  obtain ⟨a1, b1⟩ := rng_at _ _ _ r1
  obtain ⟨a2, b2⟩ := rng_at _ _ _ r2
  have k0 : W7.cell? ⟨gl, 0, none⟩ = some (.int .i64 0) := ownR_at KI.out.2.2.1 a0
  have k1 : W7.cell? ⟨gl, 1, none⟩ = some (.int .i64 (im.check : Nat)) := ownR_at KI.out.2.2.1 b0
  have k2 : W7.cell? ⟨gl, 2, none⟩ = some (.int .i64 (c4 : Nat)) := ownR_at KI.out.2.2.1 a1
  have k3 : W7.cell? ⟨gl, 3, none⟩ = some (.int .i64 (im.dir : Nat)) := ownR_at KI.out.2.2.1 b1
  have k4 : W7.cell? ⟨gl, 4, none⟩ = some (.int .i64 (d8 : Nat)) := ownR_at KI.out.2.2.1 a2
  have k5 : W7.cell? ⟨gl, 5, none⟩ = some (.int .i64 (im.hdr : Nat)) := ownR_at KI.out.2.2.1 b2
  have q1 : ∀ W, (Op.equalIn 10000 36 (.agg #[.int .i64 0, .int .i64 (im.check : Nat)]) (.agg #[.int .i64 0, .int .i64 (im.check : Nat)])).run Tryd.prog W = .ok true W := fun W => by rw [rng_eq]; simp
  have q2 : ∀ W, (Op.equalIn 10000 36 (.agg #[.int .i64 (c4 : Nat), .int .i64 (im.dir : Nat)]) (.agg #[.int .i64 (c4 : Nat), .int .i64 (im.dir : Nat)])).run Tryd.prog W = .ok true W := fun W => by rw [rng_eq]; simp
  have q3 : ∀ W, (Op.equalIn 10000 36 (.agg #[.int .i64 (d8 : Nat), .int .i64 (im.hdr : Nat)]) (.agg #[.int .i64 (d8 : Nat), .int .i64 (im.hdr : Nat)])).run Tryd.prog W = .ok true W := fun W => by rw [rng_eq]; simp
  have o1 : (1 : Int) < (m0 : Int) := by omega
  have o2 : (2 : Int) < (m0 : Int) := by omega
  have o0 : (0 : Int) < (m0 : Int) := by omega
  have o0n : 0 < m0 := by omega
  have o1n : 1 < m0 := by omega
  have o2n : 2 < m0 := by omega
  have HM3 := Lib.hid hm3'
  clear a0 a1 a2 b0 b1 b2 r0 r1 r2 hc4 hd8 hm3'
  go_upto_region 7 with (fail)
  go_quiet (fail)
  have KQ : Hid ((W7.drewN nq).heap[q0 + 1]? = some (.cells #[.bool im.plus, .int .i64 (im.check : Nat), .int .i64 (im.dir : Nat), .int .u32 (im.hdr : Nat), .slice V m cV, .int .u32 (im.table : Nat), .int .u32 (im.length : Nat), .slice U k cU] 33) ∧ Below w.heap.size w (W7.drewN nq) ∧ OwnR (W7.drewN nq) W4.heap.size 36 2 (some ⟨gl, 0, none⟩) m0 d0 (LL.flatMap rngCells) ∧ ReadR (W7.drewN nq) V (im.secs.flatMap secCells)) := Lib.hid ⟨KI.out.1, kp_drewN KI.out.2.1 nq, KI.out.2.2.1, KI.out.2.2.2⟩
  clear KI z0 z1 z2 z3 z4 z5 z6 z7 k0 k1 k2 k3 k4 k5 q1 q2 q3 o0 o1 o2 o0n o1n o2n e4 e5 u1 u1n e1
  generalize W7.drewN nq = WQ at *
  obtain ⟨z0, z1, z2, z3, z4, z5, z6, z7⟩ := cells_8 KQ.out.1
  go_upto_region 10 with (fail)
  clear z0 z1 z2 z3 z4 z5 z6 z7
  go_wp2_with (fail)
  go_loopw [10, 11] (fun ve vi wl => ∃ (i e9 : Nat), ve = .int .i64 (e9 : Int) ∧ vi = .int .i64 (i : Int) ∧ i ≤ m ∧ e9 ≤ 8589934592 ∧ Hid (e9 = (chainR (RR.take i) im.hdr).2) ∧ Hid (Below WQ.heap.size WQ wl)) (fun _ vi _ => m - (intOf vi).toNat)
  case atStart => exact ⟨0, im.hdr, rfl, rfl, Nat.zero_le _, by omega, Lib.hid rfl, Lib.hid (Below.refl _ _)⟩
  case round =>
    obtain ⟨i, e9, rfl, rfl, hi, he9, HE9, HK⟩ := hrel
    obtain ⟨z0, z1, z2, z3, z4, z5, z6, z7⟩ := cells_8 (has_below KQ.out.1 HK.out)
    by_cases hlt : i < m
    · have i1 : decide ((i : Int) < (m : Int)) = true := by simp; omega
      have i1n : decide (i < m) = true := by simp; omega
      obtain ⟨x, hx⟩ : ∃ x, RR[i]? = some x := ⟨_, List.getElem?_eq_getElem (by have := hRlen.out; omega)⟩
      obtain ⟨a0, b0⟩ := rng_at _ _ _ (HR5.out.1 i x hx)
      obtain ⟨lx1, lx2, _⟩ := HSB.out x (HCH.out.2.1.mem_iff.1 (List.mem_of_getElem? hx))
      have HX1 := Lib.hid (chain_at RR im.hdr i x HCH.out.1 hx)
      have HX2 := Lib.hid (HCH.out.2.1.mem_iff.1 (List.mem_of_getElem? hx))
      have HX3 : Hid ((chainR (RR.take (i + 1)) im.hdr).2 = x.1 + x.2) := Lib.hid (by rw [List.take_add_one, hx]; exact chain_snoc _ _ _)
      obtain ⟨x1, x2⟩ := x
      dsimp only at a0 b0 lx1 lx2 HX1 HX3
      obtain ⟨y1, hy1⟩ : ∃ y1, x1 + x2 = y1 := ⟨_, rfl⟩
      rw [hy1] at b0 HX3
      obtain ⟨j3, hj3⟩ : ∃ j3, 3 + i = j3 := ⟨_, rfl⟩
      rw [hj3] at a0 b0
      have k0 := ownR_at (KQ.out.2.2.1.below HK.out (Nat.le_refl _)) a0
      have k1 := ownR_at (KQ.out.2.2.1.below HK.out (Nat.le_refl _)) b0
      have e1 : IntKind.i64.wrap ((3 : Int) + (i : Int)) = (j3 : Int) := by rw [IntWalk.i64_in _ (by omega)]; omega
      have j3l : (j3 : Int) < (m0 : Int) := by omega
      have j3n : j3 < m0 := by omega
      have HY1 := Lib.hid hy1
      have HX9 : Hid (x1 = e9) := Lib.hid (by rw [HX1.out, HE9.out])
      have hy1l : y1 ≤ 8589934592 := by omega
      clear hx a0 b0 hj3 hy1
      go_upto_region 14 with (fail)
      refine wp_nm fun WB hWB => ?_
      obtain ⟨gW, hgW⟩ : ∃ gW, wr.heap.size = gW := ⟨_, rfl⟩
      have kW : WB.heap[gW]? = some (.cells #[.int .i64 (x1 : Nat), .int .i64 (y1 : Nat)] 36) := by rw [← hWB, ← hgW]; exact has_new _ _
      have hbW : Below wr.heap.size wr WB := by rw [← hWB]; exact kp_alloc (Below.refl _ _) _
      have KW := Lib.hid (And.intro kW (kp_call HK.out hbW))
      rw [hgW]
      clear hWB hgW kW hbW k0 k1 e1 j3l j3n z0 z1 z2 z3 z4 z5 z6 z7
      go_wp2_with (fail)
      go_loopw [13, 14] (fun vt vk wl => ∃ (k9 : Nat) (b9 : Bool), vt = .bool b9 ∧ vk = .int .i64 (k9 : Int) ∧ k9 ≤ m ∧ Hid (b9 = (im.secs.take k9).any fun s => ((x1 : Int) == (s.1 : Int)) && ((y1 : Int) == ((s.1 + s.2 : Nat) : Int))) ∧ Hid (Below WB.heap.size WB wl)) (fun _ vk _ => m - (intOf vk).toNat)
      case atStart => exact ⟨0, false, rfl, rfl, Nat.zero_le _, Lib.hid rfl, Lib.hid (Below.refl _ _)⟩
      case round =>
        obtain ⟨k9, b9, rfl, rfl, hk9, HB9, HKK⟩ := hrel
        obtain ⟨z0, z1, z2, z3, z4, z5, z6, z7⟩ := cells_8 (has_below (has_below KQ.out.1 KW.out.2) HKK.out)
        have kw9 := has_below KW.out.1 HKK.out
        have hgWlt := block_lt kw9
        obtain ⟨c0, c1⟩ := cells_2 kw9
        by_cases hkl : k9 < m
        · have i2 : decide ((k9 : Int) < (m : Int)) = true := by simp; omega
          have i2n : decide (k9 < m) = true := by simp; omega
          have e2 : IntKind.i64.wrap ((k9 : Int) + 1) = (k9 : Int) + 1 := IntWalk.i64_in _ (by omega)
          obtain ⟨s, hs⟩ : ∃ s, im.secs[k9]? = some s := ⟨_, List.getElem?_eq_getElem (by have := HMM.out; omega)⟩
          obtain ⟨s0, s1⟩ := sec_at _ _ _ hs
          have hrw := ((KQ.out.2.2.2.below (KW.out.2) (Nat.le_refl _)).below HKK.out (Nat.le_refl _))
          obtain ⟨bV, oV, hV, hbV, d0'⟩ := hrw.at_ s0
          obtain ⟨bV', oV', hV', hbV', d1⟩ := hrw.at_ s1
          obtain ⟨rfl, rfl⟩ : bV = bV' ∧ oV = oV' := by rw [hV] at hV'; injection hV' with e; injection e with e1 e2; exact ⟨e1, e2⟩
          have d1' : wr.cell? ⟨bV, oV + k9 * 2 + 1, none⟩ = some (.int .u32 (s.2 : Nat)) := d1
          have hbVl : bV < wr.heap.size := hbV
          have z4' : wr.cell? ⟨q0 + 1, 4, none⟩ = some (.slice (some ⟨bV, oV, none⟩) m cV) := by rw [← hV]; exact z4
          obtain ⟨ls1, ls2, _⟩ := HSB.out s (List.mem_of_getElem? hs)
          have hsn : im.secs.take (k9 + 1) = im.secs.take k9 ++ [s] := by rw [List.take_add_one, hs]; rfl
          obtain ⟨sa, sb⟩ := s
          dsimp only at d0' d1' ls1 ls2 hsn
          obtain ⟨sy, hsy⟩ : ∃ sy, sa + sb = sy := ⟨_, rfl⟩
          have e7 : IntKind.i64.wrap (sa : Int) = (sa : Int) := IntWalk.i64_in _ (by omega)
          have e8 : IntKind.i64.wrap (sb : Int) = (sb : Int) := IntWalk.i64_in _ (by omega)
          have e10 : IntKind.i64.wrap ((sa : Int) + (sb : Int)) = (sy : Int) := by rw [IntWalk.i64_in _ (by omega)]; omega
          obtain ⟨hb, hhb⟩ : ∃ hb, (((x1 : Int) == (sa : Int)) && ((y1 : Int) == (sy : Int))) = hb := ⟨_, rfl⟩
          have qq : ∀ W, (Op.equalIn 10000 36 (.agg #[.int .i64 (x1 : Nat), .int .i64 (y1 : Nat)]) (.agg #[.int .i64 (sa : Nat), .int .i64 (sy : Nat)])).run Tryd.prog W = .ok hb W := fun W => by rw [rng_eq, hhb]
          have HBN : Hid ((b9 || hb) = (im.secs.take (k9 + 1)).any fun s => ((x1 : Int) == (s.1 : Int)) && ((y1 : Int) == ((s.1 + s.2 : Nat) : Int))) := Lib.hid (by
            rw [hsn, List.any_append, ← HB9.out, ← hhb, ← hsy]; simp)
          clear z0 z1 z2 z3 z4 z5 z6 z7 hrw s0 s1 d1 hV hV' hbV hbV' hs hsn hsy hhb HB9
          cases b9 with
          | true =>
            go_wp2_with (fail)
            go_roundw
            case rel => exact ⟨k9 + 1, true, rfl, by go_num, by omega, HBN, Lib.hid (kp_alloc HKK.out _)⟩
            case measure => simp [intOf]; omega
          | false =>
            go_wp2_with (fail)
            go_roundw
            case rel => exact ⟨k9 + 1, hb, rfl, by go_num, by omega, HBN, Lib.hid (kp_alloc HKK.out _)⟩
            case measure => simp [intOf]; omega
        · have i2 : decide ((k9 : Int) < (m : Int)) = false := by simp; omega
          have i2n : decide (k9 < m) = false := by simp; omega
          obtain rfl : k9 = m := by omega
          have hbt : b9 = true := by
            rw [HB9.out, List.any_eq_true]
            refine ⟨(x1, x2), ?_, ?_⟩
            · rw [List.take_of_length_le (by have := HMM.out; omega)]; exact HX2.out
            · have := HY1.out; simp; omega
          subst hbt
          have v1 : ((x1 : Int) != (e9 : Int)) = false := by rw [HX9.out]; simp
          have v2 : IntKind.i64.wrap ((i : Int) + 1) = (i : Int) + 1 := IntWalk.i64_in _ (by omega)
          have HF := Lib.hid (kp_call KW.out.2 HKK.out)
          go_wp2_with (fail)
          go_roundw
          case rel => exact ⟨i + 1, y1, rfl, by go_num, by omega, hy1l, Lib.hid HX3.out.symm, HF⟩
          case measure => simp [intOf]; omega
    · have i1 : decide ((i : Int) < (m : Int)) = false := by simp; omega
      have i1n : decide (i < m) = false := by simp; omega
      obtain rfl : i = m := by omega
      have hel : e9 = la := by
        rw [HE9.out, List.take_of_length_le (by have := hRlen.out; omega), HCH.out.2.2]
      subst hel
      have H9 := Lib.hid (kp_call KQ.out.2.1 HK.out)
      have e1 : IntKind.i64.wrap (im.length : Int) = (im.length : Int) := IntWalk.i64_in _ (by omega)
      have e2 : IntKind.i64.wrap ((n : Int) - (im.length : Int)) = (en : Int) := by rw [IntWalk.i64_in _ (by omega)]; omega
      by_cases hle : e9 < en
      · have t1 : decide ((e9 : Int) < (en : Int)) = true := by simp; omega
        have t1n : decide (e9 < en) = true := by simp; omega
        obtain ⟨hl4, hat⟩ := HR5.out.2.1 hle
        have hm4 : m0 = 4 + i := by have := HM0.out; have := HMM.out; omega
        rw [← HMM.out] at hat
        obtain ⟨a0, b0⟩ := rng_at _ _ _ hat
        obtain ⟨j3, hj3⟩ : ∃ j3, 3 + i = j3 := ⟨_, rfl⟩
        rw [hj3] at a0 b0
        have k0 := ownR_at (KQ.out.2.2.1.below HK.out (Nat.le_refl _)) a0
        have k1 := ownR_at (KQ.out.2.2.1.below HK.out (Nat.le_refl _)) b0
        have e3 : IntKind.i64.wrap ((4 : Int) + (i : Int)) = (m0 : Int) := by rw [IntWalk.i64_in _ (by omega)]; omega
        have e5 : IntKind.i64.wrap ((m0 : Int) - 1) = (j3 : Int) := by rw [IntWalk.i64_in _ (by omega)]; omega
        have j3l : (j3 : Int) < (m0 : Int) := by omega
        have j3n : j3 < m0 := by omega
        have qq : ∀ W, (Op.equalIn 10000 36 (.agg #[.int .i64 (e9 : Nat), .int .i64 (en : Nat)]) (.agg #[.int .i64 (e9 : Nat), .int .i64 (en : Nat)])).run Tryd.prog W = .ok true W := fun W => by rw [rng_eq]; simp
        have v0 : ((m0 : Int) == (m0 : Int)) = true := by simp
        have HM4 := Lib.hid hm4
        clear hl4 hat a0 b0 hj3 hm4 hle
        go_wp2_with (first
          | (go_at_call 8; (with_reducible refine (works17_any _ (HS.out.below' H9.out)).mono ?_); rintro e w9 ⟨rfl, hb9⟩; have HB9 := Lib.hid (kp_call H9.out hb9); clear hb9))
        go_ret
        exact ⟨rfl, HB9.out⟩
      · have t1 : decide ((e9 : Int) < (en : Int)) = false := by simp; omega
        have t1n : decide (e9 < en) = false := by simp; omega
        have hm4 : m0 = 3 + i := by have := HM0.out; have := HMM.out; have := HR5.out.2.2 hle; omega
        have e3 : IntKind.i64.wrap ((3 : Int) + (i : Int)) = (m0 : Int) := by rw [IntWalk.i64_in _ (by omega)]; omega
        have v0 : ((m0 : Int) == (m0 : Int)) = true := by simp
        clear hm4 hle
        go_wp2_with (first
          | (go_at_call 8; (with_reducible refine (works17_any _ (HS.out.below' H9.out)).mono ?_); rintro e w9 ⟨rfl, hb9⟩; have HB9 := Lib.hid (kp_call H9.out hb9); clear hb9))
        go_ret
        exact ⟨rfl, HB9.out⟩
end Go.Proofs.YtcedojmhgmgcgaaDoor
