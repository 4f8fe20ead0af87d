/-
  pe: the statement on counts
-/
import Derived.Test.YtjfpiidofbjdhaaDoorPeY
namespace Go.Proofs.YtjfpiidofbjdhaaDoor
open Go.RowKit Go
set_option linter.unusedVariables false
set_option linter.unusedSimpArgs false
set_option maxRecDepth 100000
set_option maxHeartbeats 16000000 in
theorem counts_row (x : Shp) (kv hv : Int) (w : World) (hx : IsShp w x) (hk : (Lit.int .u32 kv).wf = true) (hh : (Lit.int .u32 hv).wf = true) (hT : Sizes w) :
    Calls Tryd.prog 11 #[x.val, .int .u32 kv, .int .u32 hv] w fun e w' => e = .returned (.bool true) ∧ Below w.heap.size w w' := by
  unfold Shp.val
  replace hk := bounds_u32 hk
  replace hh := bounds_u32 hh
  obtain ⟨kn, rfl⟩ : ∃ kn : Nat, kv = (kn : Int) := ⟨kv.toNat, by omega⟩
  obtain ⟨hn, rfl⟩ : ∃ hn : Nat, hv = (hn : Int) := ⟨hv.toNat, by omega⟩
  have HX := Lib.hid hx
  have HS := Lib.hid hT
  clear hx hT
  go_enter Tryd.func11, Tryd.ntmps11
  go_upto_region 1 with (fail)
  refine wp_nm fun W0 hW0 => ?_
  have k0 : W0.heap[w.heap.size]? = some (.cells x.cells 39) := by rw [← hW0]; exact has_new w _
  have hb0 : Below w.heap.size w W0 := by rw [← hW0]; exact kp_alloc (Below.refl _ _) _
  have KX := Lib.hid (And.intro k0 hb0)
  have CB := Lib.hid (brought_any x W0 (HX.out.r.below hb0) HX.out.lc HX.out.cc HX.out.bc HX.out.gc HX.out.bn)
  clear hW0 k0 hb0
  go_wp2_with (refine wpList_load_row rfl _ _ rfl w.heap.size rfl _ _ _ _ KX.out.1 Tryd.underlying39 rfl (by kernel_rfl) ?_)
  (with_reducible refine CB.out.mono ?_)
  clear CB
  rintro e W2 ⟨y, rfl, hy, hb2, hpl, hst, hfi, hbe, hor, hbo, hsi⟩
  have hB := brd HX.out hy hst hfi hbe hor hbo hsi
  have H2 := Lib.hid (And.intro hy (And.intro (kp_call KX.out.2 hb2) (And.intro hB (And.intro (has_below KX.out.1 hb2) hpl))))
  clear hy hb2 hpl hst hfi hbe hor hbo hsi hB
  go_upto_region 2 with (refine wpList_store_row rfl _ _ _ rfl W2.heap.size y.cells rfl rfl _ _ (has_new W2 _) (by kernel_rfl) rfl (by simp [Shp.cells, Value.oneCell']) ?_)
  refine wp_nm fun W3 hW3 => ?_
  have k3 : W3.heap[W2.heap.size]? = some (.cells y.cells 39) := by rw [← hW3]; exact setRow_heap _ _ _ _ _ _ (has_new W2 _)
  have hb3 : Below W2.heap.size W2 W3 := by rw [← hW3]; exact below_setRow (kp_alloc (Below.refl _ _) _) (Nat.le_refl _) _
  have H3 := Lib.hid (And.intro k3 (And.intro (H2.out.1.below hb3) (And.intro (kp_call H2.out.2.1 hb3) (And.intro H2.out.2.2.1 (And.intro (has_below H2.out.2.2.2.1 hb3) H2.out.2.2.2.2)))))
  clear hW3 k3 hb3 KX H2
  have C := Lib.hid (writeD_any y W3 H3.out.2.1 H3.out.2.2.2.1.s1 H3.out.2.2.2.1.s2 H3.out.2.2.2.1.s3 H3.out.2.2.2.1.s4)
  obtain ⟨t, l, hM, hlen⟩ := write_made y.plus y.stub y.fill (y.bod.map fun z => z.2.2.2) y.ord y.beh (y.sig.map fun z => z.2.2.2) H3.out.2.2.2.1.bd
  obtain ⟨bs, hbs⟩ : ∃ bs, writeL y.plus y.stub y.fill (y.bod.map fun z => z.2.2.2) y.ord y.beh (y.sig.map fun z => z.2.2.2) = bs := ⟨_, rfl⟩
  rw [hbs] at C hM hlen
  have HM := Lib.hid (And.intro hM hlen)
  clear hM hlen hbs
  go_wp2_with (refine wpList_load_row rfl _ _ rfl W2.heap.size rfl _ _ _ _ H3.out.1 Tryd.underlying39 rfl (by kernel_rfl) ?_)
  (with_reducible refine C.out.mono ?_)
  rintro e W4 ⟨A, n, c, rfl, ho4, hb4⟩
  clear C
  have hb4' := kp_call H3.out.2.2.1 hb4
  have hcap := ho4.row.cap
  have P1 := Lib.hid (parse_any A n c bs W4 ho4.rb (HS.out.below' hb4') hcap.1 (by have := hcap.2; unfold maxLen at this; omega))
  have H4 := Lib.hid (And.intro (has_below H3.out.1 hb4) (And.intro (H3.out.2.1.below hb4) (And.intro hb4' (And.intro H3.out.2.2.2.1 (And.intro (has_below H3.out.2.2.2.2.1 hb4) (And.intro H3.out.2.2.2.2.2 (And.intro (ho4.lower H3.out.2.2.1.size) (And.intro hcap ho4.len))))))))
  clear ho4 hb4 hb4' hcap H3
  go_wp2_with (fail)
  (with_reducible refine P1.out.mono ?_)
  clear P1
  rintro e W5 ⟨hp, hb5⟩
  rw [HM.out.1.parse, if_neg (by have := H4.out.2.2.2.1.g8; have := H4.out.2.2.2.1.ng; omega)] at hp
  obtain ⟨im, him⟩ : ∃ im, imL y.plus (peL y.stub) (y.bod.map fun z => z.2.2.2).length (hdL y.plus y.stub y.fill (y.bod.map fun z => z.2.2.2).length) (y.bod.map fun z => z.2.2.2) (ordL (y.bod.map fun z => z.2.2.2).length y.ord) t l (y.sig.map fun z => z.2.2.2) = im := ⟨_, rfl⟩
  rw [him] at hp
  obtain ⟨V, m, cV, U, k, cU, xs, rfl, hio⟩ := hp
  have H5 := Lib.hid (And.intro (has_below H4.out.1 hb5) (And.intro (H4.out.2.1.below hb5) (And.intro (kp_call H4.out.2.2.1 hb5) (And.intro hio.rd (H4.out.2.2.2.2.2.2.1.below hb5 (Nat.le_refl _))))))
  have HB := Lib.hid (And.intro H4.out.2.2.2.1 (And.intro H4.out.2.2.2.2.2.1 (And.intro H4.out.2.2.2.2.2.2.2.1 (And.intro H4.out.2.2.2.2.2.2.2.2 him))))
  have HK0 := Lib.hid (has_below H4.out.2.2.2.2.1 hb5)
  clear hio hb5 him H4
  go_upto_region 4 with (refine wpList_store_row rfl _ _ _ rfl W5.heap.size (imVal im V m cV U k cU) rfl rfl _ _ (has_new W5 _) (by kernel_rfl) rfl (by simp [imVal, Value.oneCell']) ?_)
  refine wp_nm fun W6 hW6 => ?_
  have k6 : W6.heap[W5.heap.size]? = some (.cells (imVal im V m cV U k cU) 28) := by rw [← hW6]; exact setRow_heap _ _ _ _ _ _ (has_new W5 _)
  have hb6 : Below W5.heap.size W5 W6 := by rw [← hW6]; exact below_setRow (kp_alloc (Below.refl _ _) _) (Nat.le_refl _) _
  have S6 := Lib.hid (show St16 w y W2.heap.size W5.heap.size A n c bs im V m cV U k cU xs W6 from ⟨has_below H5.out.1 hb6, k6, H5.out.2.2.2.2.below hb6 (Nat.le_refl _), H5.out.2.2.2.1.below hb6, H5.out.2.1.below hb6, kp_call H5.out.2.2.1 hb6⟩)
  have HK6 := Lib.hid (has_below HK0.out hb6)
  clear hW6 k6 hb6 H5 HK0
  have hm := HM.out.1.m
  have d1 : im.dir = peL y.stub + sizeL y.plus - 72 := by rw [← HB.out.2.2.2.2]; rfl
  have d2 : im.check = peL y.stub + 88 := by rw [← HB.out.2.2.2.2]; rfl
  have d3 : im.hdr = hdL y.plus y.stub y.fill (y.bod.map fun z => z.2.2.2).length := by rw [← HB.out.2.2.2.2]; rfl
  have d4 : im.table = t := by rw [← HB.out.2.2.2.2]; rfl
  have d5 : im.length = l := by rw [← HB.out.2.2.2.2]; rfl
  have d6 : im.sigs = y.sig.map fun z => z.2.2.2 := by rw [← HB.out.2.2.2.2]; rfl
  have m1 := hm.hp
  have m2 := hm.hh
  have m3 := hm.len
  have m4 := HM.out.1.big
  have m5 := sizeL_two y.plus
  have m6 := hm.hn
  have bl : bs.length = n := HB.out.2.2.2.1
  have nb : y.bn = (y.bod.map fun z => z.2.2.2).length := HB.out.1.nb
  obtain ⟨aa, haa⟩ : ∃ aa, im.dir - 36 = aa := ⟨_, rfl⟩
  obtain ⟨ab, hab⟩ : ∃ ab, im.check - 4 = ab := ⟨_, rfl⟩
  have e1 : IntKind.i64.wrap ((im.dir : Int) - 36) = (aa : Int) := by rw [IntWalk.i64_in _ (by omega)]; omega
  have e2 : IntKind.i64.wrap ((im.check : Int) - 4) = (ab : Int) := by rw [IntWalk.i64_in _ (by omega)]; omega
  have e3 : IntKind.u64.wrap (kn : Int) = (kn : Int) := IntWalk.u64_in _ (by omega)
  have e4 : IntKind.u64.wrap (hn : Int) = (hn : Int) := IntWalk.u64_in _ (by omega)
  obtain ⟨z0, z1, z2, z3, z4, z5, z6, z7⟩ := cells_8 S6.out.i
  have hc0 : putL bs aa kn 4 = bs ∨ (kn ≠ 16 ∧ parseQ (putL bs aa kn 4) = .inl 9) := by
    by_cases h16 : kn = 16
    · refine .inl (put_same (by omega) ?_)
      rw [h16, show aa = peL y.stub + sizeL y.plus - 108 by omega]
      exact hm.h.en
    · refine .inr ⟨h16, HM.out.1.count _ (putL_len _ _ _ _ (by omega)) (fun i hi => put_other (by omega) (by omega)) ?_⟩
      rw [show peL y.stub + sizeL y.plus - 108 = aa by omega, num_put4 (by omega) (by omega)]
      exact h16
  have hc1 : kn = 16 ↔ putL bs aa kn 4 = bs := by
    constructor
    · intro h16
      refine put_same (by omega) ?_
      rw [h16, show aa = peL y.stub + sizeL y.plus - 108 by omega]
      exact hm.h.en
    · intro h
      have h1 := num_put4 (b := bs) (a := aa) (x := kn) (by omega) (by omega)
      rw [h, show aa = peL y.stub + sizeL y.plus - 108 by omega, hm.h.en] at h1
      exact h1.symm
  have hd0 : hn = im.hdr → putL bs ab hn 4 = bs := by
    intro h
    refine put_same (by omega) ?_
    rw [h, show ab = peL y.stub + 84 by omega, d3]
    exact hm.h.hd
  have hpar : parseQ bs = .inr im := by
    have h9 := HM.out.1.parse
    rw [if_neg (by have := HB.out.1.g8; have := HB.out.1.ng; omega), HB.out.2.2.2.2] at h9
    exact h9
  have hhd : ∀ im', parseQ (putL bs ab hn 4) = .inr im' → im'.hdr = hn ∧ im.dir + 96 + 40 * y.bn ≤ hn ∧ hn ≤ n := by
    intro im' h
    obtain ⟨q1, q2, q3⟩ := HM.out.1.head _ (putL_len _ _ _ _ (by omega)) (fun i hi => put_other (by omega) (by omega)) im' h
    rw [show peL y.stub + 84 = ab by omega, num_put4 (by omega) (by omega)] at q1 q2 q3
    omega
  have HP := Lib.hid (And.intro hc0 (And.intro hc1 (And.intro hd0 (And.intro hpar hhd))))
  have dz : 32 ≤ im.dir ∧ im.dir ≤ 1000000000 := by omega
  have hz : im.hdr < 4294967296 := by omega
  have hab4 : aa + 4 ≤ n ∧ ab + 4 ≤ n ∧ n ≤ 100000 := by omega
  clear hc0 hc1 hd0 hpar hhd hm d1 d2 d3 d4 d5 d6 haa hab m1 m2 m3 m4 m5 m6 bl nb
  have CL := Lib.hid (laid_any A n c bs (aa : Nat) (kn : Nat) 4 aa kn 4 W6 S6.out.o.rb rfl rfl rfl (by omega) (by decide) (by omega) (by omega))
  go_wp2_with (fail)
  (with_reducible refine CL.out.mono ?_)
  clear CL
  rintro e W7 ⟨A7, n7, c7, rfl, ho7, hb7⟩
  have S7 := Lib.hid (S6.out.below hb7)
  clear hb7
  have hcp := ho7.row.cap
  have P := Lib.hid (parse_any A7 n7 c7 (putL bs aa kn 4) W7 ho7.rb (HS.out.below' S7.out.b) hcp.1 (by have := hcp.2; unfold maxLen at this; omega))
  have SO := Lib.hid ho7
  clear hcp ho7
  go_wp2_with (fail)
  (with_reducible refine P.out.mono ?_)
  clear P
  rintro e Wp hp
  obtain ⟨phv, ptv, plv, ppv, pcv, pdv, pV, pm, pcV, pU, pk, pcU, per, rfl, phb, po1, po2, po3, pcase⟩ := parse_abs hp
  clear hp
  have pC := Lib.hid pcase
  have pHB := Lib.hid phb
  clear pcase phb
  go_upto_region 8 with (refine wpList_store_row rfl _ _ _ rfl Wp.heap.size #[ppv, pcv, pdv, .int .u32 (phv : Nat), .slice pV pm pcV, .int .u32 (ptv : Nat), .int .u32 (plv : Nat), .slice pU pk pcU] rfl rfl _ _ (has_new Wp _) (by kernel_rfl) rfl (im_one po1 po2 po3 _ _ _ _ _ _ _ _ _) ?_)
  refine wp_nm fun W9 hWe => ?_
  have ke : W9.heap[Wp.heap.size]? = some (.cells #[ppv, pcv, pdv, .int .u32 (phv : Nat), .slice pV pm pcV, .int .u32 (ptv : Nat), .int .u32 (plv : Nat), .slice pU pk pcU] 28) := by rw [← hWe]; exact setRow_heap _ _ _ _ _ _ (has_new Wp _)
  have he1 : Below Wp.heap.size Wp W9 := by rw [← hWe]; exact below_setRow (kp_alloc (Below.refl _ _) _) (Nat.le_refl _) _
  have Sp := Lib.hid (S7.out.below (kp_call pHB.out he1))
  have Ep := Lib.hid (And.intro ke (And.intro he1 (kp_call pHB.out he1)))
  clear hWe ke he1
  obtain ⟨z0, z1, z2, z3, z4, z5, z6, z7⟩ := cells_8 Sp.out.i
  have CL := Lib.hid (laid_any A n c bs (ab : Nat) (hn : Nat) 4 ab hn 4 W9 Sp.out.o.rb rfl rfl rfl (by omega) (by decide) (by omega) (by omega))
  go_wp2_with (fail)
  (with_reducible refine CL.out.mono ?_)
  clear CL
  rintro e W10 ⟨A10, n10, c10, rfl, ho10, hb10⟩
  have S10 := Lib.hid (Sp.out.below hb10)
  clear hb10 z0 z1 z2 z3 z4 z5 z6 z7
  have hcp := ho10.row.cap
  have P := Lib.hid (parse_any A10 n10 c10 (putL bs ab hn 4) W10 ho10.rb (HS.out.below' S10.out.b) hcp.1 (by have := hcp.2; unfold maxLen at this; omega))
  have SO := Lib.hid ho10
  clear hcp ho10
  go_wp2_with (fail)
  (with_reducible refine P.out.mono ?_)
  clear P
  rintro e Wq hp
  obtain ⟨qhv, qtv, qlv, qpv, qcv, qdv, qV, qm, qcV, qU, qk, qcU, qer, rfl, qhb, qo1, qo2, qo3, qcase⟩ := parse_abs hp
  clear hp
  have qC := Lib.hid qcase
  have qHB := Lib.hid qhb
  clear qcase qhb
  go_upto_region 10 with (refine wpList_store_row rfl _ _ _ rfl Wq.heap.size #[qpv, qcv, qdv, .int .u32 (qhv : Nat), .slice qV qm qcV, .int .u32 (qtv : Nat), .int .u32 (qlv : Nat), .slice qU qk qcU] rfl rfl _ _ (has_new Wq _) (by kernel_rfl) rfl (im_one qo1 qo2 qo3 _ _ _ _ _ _ _ _ _) ?_)
  refine wp_nm fun W11 hWe => ?_
  have ke : W11.heap[Wq.heap.size]? = some (.cells #[qpv, qcv, qdv, .int .u32 (qhv : Nat), .slice qV qm qcV, .int .u32 (qtv : Nat), .int .u32 (qlv : Nat), .slice qU qk qcU] 28) := by rw [← hWe]; exact setRow_heap _ _ _ _ _ _ (has_new Wq _)
  have he1 : Below Wq.heap.size Wq W11 := by rw [← hWe]; exact below_setRow (kp_alloc (Below.refl _ _) _) (Nat.le_refl _) _
  have Sq := Lib.hid (S10.out.below (kp_call qHB.out he1))
  have Eq := Lib.hid (And.intro ke (And.intro he1 (kp_call qHB.out he1)))
  clear hWe ke he1
  have hpk : per = 0 ↔ kn = 16 := by
    constructor
    · intro h
      rcases pC.out with ⟨_, im', xs', h1, _⟩ | ⟨h1, _, _⟩
      · rcases HP.out.1 with h2 | ⟨_, h2⟩
        · exact HP.out.2.1.2 h2
        · rw [h2] at h1; cases h1
      · exact absurd h h1
    · intro h
      rcases pC.out with ⟨h1, _⟩ | ⟨_, _, h1⟩
      · exact h1
      · rw [HP.out.2.1.1 h, HP.out.2.2.2.1] at h1; cases h1
  obtain ⟨bb, hbb1, hbb2⟩ : ∃ bb : Bool, ((per : Int) == 0) = bb ∧ ((kn : Int) == 16) = bb := by
    by_cases h : kn = 16
    · exact ⟨true, by rw [hpk.2 h]; rfl, by rw [h]; rfl⟩
    · exact ⟨false, by have : per ≠ 0 := fun e => h (hpk.1 e); simp; omega, by simp; omega⟩
  have hqq : (qer ≠ 0 ∧ hn ≠ im.hdr) ∨ (qer = 0 ∧ qhv = hn ∧ im.dir + 96 + 40 * y.bn ≤ hn ∧ hn ≤ n) := by
    rcases qC.out with ⟨h1, im', xs', h2, _, h3, _⟩ | ⟨h1, _, h2⟩
    · obtain ⟨q1, q2, q3⟩ := HP.out.2.2.2.2 im' h2
      exact .inr ⟨h1, by omega, q2, q3⟩
    · refine .inl ⟨h1, fun e => ?_⟩
      rw [HP.out.2.2.1 e, HP.out.2.2.2.1] at h2
      cases h2
  have hyb : y.bn ≤ 20 := HB.out.1.s1.2.2.2.1
  have WK := Lib.hid (fun x : Up W11 => works_any x.w (HS.out.below' (Below.up x Sq.out.b Sq.out.b.size)))
  have RT := Lib.hid (fun W => rows_tab im V m cV U k cU W dz.1 dz.2)
  have hxx := Sq.out.x
  unfold Shp.cells at hxx
  obtain ⟨g0, g1, g2, g3, g4, g5, g6⟩ := cells_7 hxx
  have u3 : ∀ x : Up W11, x.w.cell? ⟨W2.heap.size, 3, none⟩ = some (.slice y.bA y.bn y.bc) := Up.cell g3
  obtain ⟨z0, z1, z2, z3, z4, z5, z6, z7⟩ := cells_8 Sq.out.i
  have v3 : ∀ x : Up W11, x.w.cell? ⟨W5.heap.size, 3, none⟩ = some (.int .u32 (im.hdr : Nat)) := Up.cell z3
  obtain ⟨j0, j1, j2, j3, j4, j5, j6, j7⟩ := cells_8 Eq.out.1
  have w3 : ∀ x : Up W11, x.w.cell? ⟨Wq.heap.size, 3, none⟩ = some (.int .u32 (qhv : Nat)) := Up.cell j3
  have hl := Lib.hid (load_im Sq.out.i (by kernel_rfl))
  clear hpk hxx g0 g1 g2 g3 g4 g5 g6 z0 z1 z2 z3 z4 z5 z6 z7 j0 j1 j2 j3 j4 j5 j6 j7
  have f1 : IntKind.i64.wrap (40 * (y.bn : Int)) = 40 * (y.bn : Int) := IntWalk.i64_in _ (by omega)
  have f2 : IntKind.i64.wrap (((im.dir + 96 : Nat) : Int) + 40 * (y.bn : Int)) = ((im.dir + 96 + 40 * y.bn : Nat) : Int) := by rw [IntWalk.i64_in _ (by omega)]; omega
  have f3 : IntKind.i64.wrap (hn : Int) = (hn : Int) := IntWalk.i64_in _ (by omega)
  obtain ⟨rt, hrt⟩ : ∃ rt, im.dir + 96 = rt := ⟨_, rfl⟩
  rw [hrt] at RT f2 hqq
  have HRT := Lib.hid hrt
  clear hrt
  obtain ⟨re, hre⟩ : ∃ re, rt + 40 * y.bn = re := ⟨_, rfl⟩
  rw [hre] at f2 hqq
  clear hre
  have HF := Lib.hid Sq.out.b
  have END : Hid (∀ x : Up W11, ∀ e : Ending, e = .returned (.bool true) → e = .returned (.bool true) ∧ Below w.heap.size w x.w) := fun x e h => ⟨h, Below.up x HF.out HF.out.size⟩
  have HL := Lib.hid hqq
  clear hqq
  rcases HL.out with ⟨h1, h2⟩ | ⟨h1, h2, h3, h4⟩
  · have t1 : ((qer : Int) != 0) = true := by simp; omega
    have t2 : ((hn : Int) != (im.hdr : Int)) = true := by simp; omega
    clear h1 h2
    go_wp2_with (fail)
    refine wp_region_up (by kernel_rfl) (by kernel_rfl) ?_
    repeat (first
      | go_big_quiet_step (first
        | (go_at_call 22; exact Up.calls (RT.out _))
        | (go_at_call 12; exact Up.calls (WK.out _)))
      | (refine quiet_load rfl _ _ rfl W5.heap.size rfl (imVal im V m cV U k cU) hl.out ?_; simp only [Act.put, List.setIfInBounds_toArray, List.set_cons_zero, List.set_cons_succ]))
    refine wpQuiet_nil ?_
    rintro _ ⟨x9, rfl⟩
    go_wp2_with (fail)
    go_ret
    exact END.out _ _ rfl
  · have t3 : decide (re ≤ hn) = true := by simp; omega
    have t4 : decide (hn ≤ n) = true := by simp; omega
    have t1 : ((qer : Int) != 0) = false := by simp; omega
    have t6 : ((qer : Int) == 0) = true := by simp; omega
    have t7 : ((qhv : Int) == (hn : Int)) = true := by simp; omega
    by_cases hnn : hn = im.hdr
    · have t2 : ((hn : Int) != (im.hdr : Int)) = false := by rw [hnn]; simp
      clear h1 h2 h3 h4 hnn
      go_wp2_with (fail)
      refine wp_region_up (by kernel_rfl) (by kernel_rfl) ?_
      repeat (first
        | go_big_quiet_step (first
          | (go_at_call 22; exact Up.calls (RT.out _))
          | (go_at_call 12; exact Up.calls (WK.out _)))
        | (refine quiet_load rfl _ _ rfl W5.heap.size rfl (imVal im V m cV U k cU) hl.out ?_; simp only [Act.put, List.setIfInBounds_toArray, List.set_cons_zero, List.set_cons_succ]))
      refine wpQuiet_nil ?_
      rintro _ ⟨x9, rfl⟩
      go_wp2_with (fail)
      go_ret
      exact END.out _ _ rfl
    · have t2 : ((hn : Int) != (im.hdr : Int)) = true := by simp; omega
      clear h1 h2 h3 h4 hnn
      go_wp2_with (fail)
      refine wp_region_up (by kernel_rfl) (by kernel_rfl) ?_
      repeat (first
        | go_big_quiet_step (first
          | (go_at_call 22; exact Up.calls (RT.out _))
          | (go_at_call 12; exact Up.calls (WK.out _)))
        | (refine quiet_load rfl _ _ rfl W5.heap.size rfl (imVal im V m cV U k cU) hl.out ?_; simp only [Act.put, List.setIfInBounds_toArray, List.set_cons_zero, List.set_cons_succ]))
      refine wpQuiet_nil ?_
      rintro _ ⟨x9, rfl⟩
      go_wp2_with (fail)
      go_ret
      exact END.out _ _ rfl
end Go.Proofs.YtjfpiidofbjdhaaDoor
