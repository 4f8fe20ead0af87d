/-
  pe: the statement on the place of the table
-/
import Derived.Test.YtjfpiidofbjdhaaDoorPeY
namespace Go.Proofs.YtjfpiidofbjdhaaDoor
open Go.RowKit Go
set_option linter.unusedVariables false
set_option linter.unusedSimpArgs false
set_option maxRecDepth 100000
set_option maxHeartbeats 16000000 in
theorem tables_row (x : Shp) (kv hv : Int) (w : World) (hx : IsShp w x) (hk : (Lit.int .u32 kv).wf = true) (hh : (Lit.int .u32 hv).wf = true) (hT : Sizes w) :
    Calls Tryd.prog 9 #[x.val, .int .u32 kv, .int .u32 hv] w fun e w' => e = .returned (.bool true) ∧ Below w.heap.size w w' := by
  unfold Shp.val
  replace hk := bounds_u32 hk
  replace hh := bounds_u32 hh
  obtain ⟨kn, rfl⟩ : ∃ kn : Nat, kv = (kn : Int) := ⟨kv.toNat, by omega⟩
  obtain ⟨hn, rfl⟩ : ∃ hn : Nat, hv = (hn : Int) := ⟨hv.toNat, by omega⟩
  have HX := Lib.hid hx
  have HS := Lib.hid hT
  clear hx hT
  go_enter Tryd.func9, Tryd.ntmps9
  go_upto_region 1 with (fail)
  refine wp_nm fun W0 hW0 => ?_
  have k0 : W0.heap[w.heap.size]? = some (.cells x.cells 39) := by rw [← hW0]; exact has_new w _
  have hb0 : Below w.heap.size w W0 := by rw [← hW0]; exact kp_alloc (Below.refl _ _) _
  have KX := Lib.hid (And.intro k0 hb0)
  have CB := Lib.hid (brought_any x W0 (HX.out.r.below hb0) HX.out.lc HX.out.cc HX.out.bc HX.out.gc HX.out.bn)
  clear hW0 k0 hb0
  go_wp2_with (refine wpList_load_row rfl _ _ rfl w.heap.size rfl _ _ _ _ KX.out.1 Tryd.underlying39 rfl (by kernel_rfl) ?_)
  (with_reducible refine CB.out.mono ?_)
  clear CB
  rintro e W2 ⟨y, rfl, hy, hb2, hpl, hst, hfi, hbe, hor, hbo, hsi⟩
  have hB := brd HX.out hy hst hfi hbe hor hbo hsi
  have H2 := Lib.hid (And.intro hy (And.intro (kp_call KX.out.2 hb2) (And.intro hB (And.intro (has_below KX.out.1 hb2) hpl))))
  clear hy hb2 hpl hst hfi hbe hor hbo hsi hB
  go_upto_region 2 with (refine wpList_store_row rfl _ _ _ rfl W2.heap.size y.cells rfl rfl _ _ (has_new W2 _) (by kernel_rfl) rfl (by simp [Shp.cells, Value.oneCell']) ?_)
  refine wp_nm fun W3 hW3 => ?_
  have k3 : W3.heap[W2.heap.size]? = some (.cells y.cells 39) := by rw [← hW3]; exact setRow_heap _ _ _ _ _ _ (has_new W2 _)
  have hb3 : Below W2.heap.size W2 W3 := by rw [← hW3]; exact below_setRow (kp_alloc (Below.refl _ _) _) (Nat.le_refl _) _
  have H3 := Lib.hid (And.intro k3 (And.intro (H2.out.1.below hb3) (And.intro (kp_call H2.out.2.1 hb3) (And.intro H2.out.2.2.1 (And.intro (has_below H2.out.2.2.2.1 hb3) H2.out.2.2.2.2)))))
  clear hW3 k3 hb3 KX H2
  have C := Lib.hid (writeD_any y W3 H3.out.2.1 H3.out.2.2.2.1.s1 H3.out.2.2.2.1.s2 H3.out.2.2.2.1.s3 H3.out.2.2.2.1.s4)
  obtain ⟨t, l, hM, hlen⟩ := write_made y.plus y.stub y.fill (y.bod.map fun z => z.2.2.2) y.ord y.beh (y.sig.map fun z => z.2.2.2) H3.out.2.2.2.1.bd
  obtain ⟨bs, hbs⟩ : ∃ bs, writeL y.plus y.stub y.fill (y.bod.map fun z => z.2.2.2) y.ord y.beh (y.sig.map fun z => z.2.2.2) = bs := ⟨_, rfl⟩
  rw [hbs] at C hM hlen
  have HM := Lib.hid (And.intro hM hlen)
  clear hM hlen hbs
  go_wp2_with (refine wpList_load_row rfl _ _ rfl W2.heap.size rfl _ _ _ _ H3.out.1 Tryd.underlying39 rfl (by kernel_rfl) ?_)
  (with_reducible refine C.out.mono ?_)
  rintro e W4 ⟨A, n, c, rfl, ho4, hb4⟩
  clear C
  have hb4' := kp_call H3.out.2.2.1 hb4
  have hcap := ho4.row.cap
  have P1 := Lib.hid (parse_any A n c bs W4 ho4.rb (HS.out.below' hb4') hcap.1 (by have := hcap.2; unfold maxLen at this; omega))
  have H4 := Lib.hid (And.intro (has_below H3.out.1 hb4) (And.intro (H3.out.2.1.below hb4) (And.intro hb4' (And.intro H3.out.2.2.2.1 (And.intro (has_below H3.out.2.2.2.2.1 hb4) (And.intro H3.out.2.2.2.2.2 (And.intro (ho4.lower H3.out.2.2.1.size) (And.intro hcap ho4.len))))))))
  clear ho4 hb4 hb4' hcap H3
  go_wp2_with (fail)
  (with_reducible refine P1.out.mono ?_)
  clear P1
  rintro e W5 ⟨hp, hb5⟩
  rw [HM.out.1.parse, if_neg (by have := H4.out.2.2.2.1.g8; have := H4.out.2.2.2.1.ng; omega)] at hp
  obtain ⟨im, him⟩ : ∃ im, imL y.plus (peL y.stub) (y.bod.map fun z => z.2.2.2).length (hdL y.plus y.stub y.fill (y.bod.map fun z => z.2.2.2).length) (y.bod.map fun z => z.2.2.2) (ordL (y.bod.map fun z => z.2.2.2).length y.ord) t l (y.sig.map fun z => z.2.2.2) = im := ⟨_, rfl⟩
  rw [him] at hp
  obtain ⟨V, m, cV, U, k, cU, xs, rfl, hio⟩ := hp
  have H5 := Lib.hid (And.intro (has_below H4.out.1 hb5) (And.intro (H4.out.2.1.below hb5) (And.intro (kp_call H4.out.2.2.1 hb5) (And.intro hio.rd (H4.out.2.2.2.2.2.2.1.below hb5 (Nat.le_refl _))))))
  have HB := Lib.hid (And.intro H4.out.2.2.2.1 (And.intro H4.out.2.2.2.2.2.1 (And.intro H4.out.2.2.2.2.2.2.2.1 (And.intro H4.out.2.2.2.2.2.2.2.2 him))))
  have HK0 := Lib.hid (has_below H4.out.2.2.2.2.1 hb5)
  clear hio hb5 him H4
  go_upto_region 4 with (refine wpList_store_row rfl _ _ _ rfl W5.heap.size (imVal im V m cV U k cU) rfl rfl _ _ (has_new W5 _) (by kernel_rfl) rfl (by simp [imVal, Value.oneCell']) ?_)
  refine wp_nm fun W6 hW6 => ?_
  have k6 : W6.heap[W5.heap.size]? = some (.cells (imVal im V m cV U k cU) 28) := by rw [← hW6]; exact setRow_heap _ _ _ _ _ _ (has_new W5 _)
  have hb6 : Below W5.heap.size W5 W6 := by rw [← hW6]; exact below_setRow (kp_alloc (Below.refl _ _) _) (Nat.le_refl _) _
  have S6 := Lib.hid (show St16 w y W2.heap.size W5.heap.size A n c bs im V m cV U k cU xs W6 from ⟨has_below H5.out.1 hb6, k6, H5.out.2.2.2.2.below hb6 (Nat.le_refl _), H5.out.2.2.2.1.below hb6, H5.out.2.1.below hb6, kp_call H5.out.2.2.1 hb6⟩)
  have HK6 := Lib.hid (has_below HK0.out hb6)
  clear hW6 k6 hb6 H5 HK0
  have hm := HM.out.1.m
  have d1 : im.dir = peL y.stub + sizeL y.plus - 72 := by rw [← HB.out.2.2.2.2]; rfl
  have d2 : im.check = peL y.stub + 88 := by rw [← HB.out.2.2.2.2]; rfl
  have d3 : im.hdr = hdL y.plus y.stub y.fill (y.bod.map fun z => z.2.2.2).length := by rw [← HB.out.2.2.2.2]; rfl
  have d4 : im.table = t := by rw [← HB.out.2.2.2.2]; rfl
  have d5 : im.length = l := by rw [← HB.out.2.2.2.2]; rfl
  have d6 : im.sigs = y.sig.map fun z => z.2.2.2 := by rw [← HB.out.2.2.2.2]; rfl
  have m1 := hm.hp
  have m2 := hm.hh
  have m3 := hm.len
  have m4 := HM.out.1.big
  have m5 := sizeL_two y.plus
  have m6 := hm.hn
  have bl : bs.length = n := HB.out.2.2.2.1
  have nb : y.bn = (y.bod.map fun z => z.2.2.2).length := HB.out.1.nb
  have hpar : parseQ bs = .inr im := by
    have h9 := HM.out.1.parse
    rw [if_neg (by have := HB.out.1.g8; have := HB.out.1.ng; omega), HB.out.2.2.2.2] at h9
    exact h9
  have hmk : m ≤ 1000 ∧ k ≤ 1000 := by
    have h1 := S6.out.r.ml
    have h2 := S6.out.r.kl
    have h3 := congrArg List.length S6.out.r.bytes
    rw [List.length_map, d6] at h3
    have h4 : im.secs.length ≤ (y.bod.map fun z => z.2.2.2).length := by
      rw [← HB.out.2.2.2.2]
      simp only [imL, plcL, List.length_map]
      have := List.length_filter_le (fun i => decide (0 < ((y.bod.map fun z => z.2.2.2).getD i []).length)) (List.range (y.bod.map fun z => z.2.2.2).length)
      rw [List.length_range] at this
      simpa using this
    have h5 := HB.out.1.s1
    have h6 := HB.out.1.ng
    omega
  obtain ⟨aa, haa⟩ : ∃ aa, im.dir = aa := ⟨_, rfl⟩
  obtain ⟨ab, hab⟩ : ∃ ab, im.dir + 4 = ab := ⟨_, rfl⟩
  have e2 : IntKind.i64.wrap ((im.dir : Int) + 4) = (ab : Int) := by rw [IntWalk.i64_in _ (by omega)]; omega
  have e3 : IntKind.u64.wrap (kn : Int) = (kn : Int) := IntWalk.u64_in _ (by omega)
  have e4 : IntKind.u64.wrap (hn : Int) = (hn : Int) := IntWalk.u64_in _ (by omega)
  obtain ⟨b1, hb1⟩ : ∃ b1, putL bs im.dir kn 4 = b1 := ⟨_, rfl⟩
  have hl1 : b1.length = n := by rw [← hb1, putL_len _ _ _ _ (by omega), bl]
  obtain ⟨b2, hb2⟩ : ∃ b2, putL b1 ab hn 4 = b2 := ⟨_, rfl⟩
  have hl2 : b2.length = n := by rw [← hb2, putL_len _ _ _ _ (by omega), hl1]
  have hag : ∀ i, (i < peL y.stub + sizeL y.plus - 72 ∨ peL y.stub + sizeL y.plus - 64 ≤ i) → b2[i]? = bs[i]? := by
    intro i hi
    rw [← hb2, put_other (by omega) (by omega), ← hb1, put_other (by omega) (by omega)]
  have hq1 : numQ b2 (peL y.stub + sizeL y.plus - 72) 4 = kn := by
    rw [← hb2, num_put4_other (by omega) (by omega), ← hb1, show peL y.stub + sizeL y.plus - 72 = im.dir by omega, num_put4 (by omega) (by omega)]
  have hq2 : numQ b2 (peL y.stub + sizeL y.plus - 68) 4 = hn := by
    rw [← hb2, show peL y.stub + sizeL y.plus - 68 = ab by omega, num_put4 (by omega) (by omega)]
  have P0 : kn = 0 ∧ hn = 0 → parseQ b2 = .inr (imL y.plus (peL y.stub) (y.bod.map fun z => z.2.2.2).length (hdL y.plus y.stub y.fill (y.bod.map fun z => z.2.2.2).length) (y.bod.map fun z => z.2.2.2) (ordL (y.bod.map fun z => z.2.2.2).length y.ord) 0 0 []) := by
    intro h
    exact HM.out.1.table0 b2 (by omega) hag (by rw [hq1]; exact h.1) (by rw [hq2]; exact h.2)
  have PX : ∀ im', parseQ b2 = .inr im' → ¬ (kn = 0 ∧ hn = 0) → im'.table = kn ∧ im'.length = hn ∧ im'.table + im'.length = n := by
    intro im' h1 h2
    have := HM.out.1.tableX b2 (by omega) hag im' h1 (by rw [hq1, hq2]; exact h2)
    rw [hq1, hq2, bl] at this
    exact this
  have PS : kn = im.table ∧ hn = im.length → b2 = bs := by
    intro h
    have ha := HM.out.1.m.at_
    rw [HM.out.1.ct, HM.out.1.cl] at ha
    have h1 : b1 = bs := by
      rw [← hb1]
      refine put_same (by omega) ?_
      rw [h.1, d4, show im.dir = peL y.stub + sizeL y.plus - 72 by omega]
      exact ha.1.symm
    rw [← hb2, h1]
    refine put_same (by omega) ?_
    rw [h.2, d5, show ab = peL y.stub + sizeL y.plus - 68 by omega]
    exact ha.2.symm
  have SEC : m = im.secs.length := S6.out.r.ml
  have HP := Lib.hid (And.intro hpar (And.intro P0 (And.intro PX PS)))
  have hse : im.secs = plcL (y.bod.map fun z => z.2.2.2) (ordL (y.bod.map fun z => z.2.2.2).length y.ord) (hdL y.plus y.stub y.fill (y.bod.map fun z => z.2.2.2).length) (List.range (y.bod.map fun z => z.2.2.2).length) := by rw [← HB.out.2.2.2.2]; rfl
  have HSE := Lib.hid (And.intro SEC hse)
  have hz : im.table < 4294967296 ∧ im.length < 4294967296 := by
    have h1 := numQ_lt4 bs (dirQ bs)
    have h2 := numQ_lt4 bs (dirQ bs + 4)
    have h3 : ctQ bs = t := HM.out.1.ct
    have h4 : clQ bs = l := HM.out.1.cl
    unfold ctQ at h3
    unfold clQ at h4
    omega
  have hab4 : im.dir + 8 ≤ n ∧ ab + 4 ≤ n ∧ n ≤ 100000 := by omega
  have L1 := Lib.hid (fun W (h : St16 w y W2.heap.size W5.heap.size A n c bs im V m cV U k cU xs W) => laid_any A n c bs (im.dir : Nat) (kn : Nat) 4 im.dir kn 4 W h.o.rb rfl rfl rfl (by omega) (by decide) (by omega) (by omega))
  rw [hb1] at L1
  have L2 := Lib.hid (fun W A7 n7 c7 (h : RB W A7 n7 b1) => laid_any A7 n7 c7 b1 (ab : Nat) (hn : Nat) 4 ab hn 4 W h rfl rfl rfl (by have := h.1; omega) (by decide) (by omega) (by have := h.1; omega))
  rw [hb2] at L2
  clear hpar P0 PX PS hm d1 d2 d3 d4 d5 d6 haa hab m1 m2 m3 m4 m5 m6 nb hb1 hb2 hag hq1 hq2 SEC hse bl
  have KEEP : Hid (∀ W, St16 w y W2.heap.size W5.heap.size A n c bs im V m cV U k cU xs W → W.cell? ⟨W5.heap.size, 2, none⟩ = some (.int .i64 (im.dir : Nat)) ∧ St16 w y W2.heap.size W5.heap.size A n c bs im V m cV U k cU xs W) := fun W h => ⟨(cells_8 h.i).2.2.1, h⟩
  have s6 := S6.out
  go_upto_region 6 with (fail)
  go_region_held3 (fun W => W.cell? ⟨W5.heap.size, 2, none⟩ = some (.int .i64 (im.dir : Nat)) ∧ St16 w y W2.heap.size W5.heap.size A n c bs im V m cV U k cU xs W)
    ((apply KEEP.out; repeat (with_reducible (first | assumption | refine St16.drew ?_ | refine St16.call ?_ (by assumption)))))
    (first
      | (go_at_call 24; (with_reducible refine (L1.out _ (by (go_split_ands; assumption))).mono ?_); (rintro e X1 ⟨A7, n7, c7, rfl, ho7, hb7⟩; have O7 := Lib.hid ho7; clear L1 ho7))
      | (go_at_call 24; (with_reducible refine (L2.out _ A7 n7 c7 (by (repeat (with_reducible (first | exact O7.out.rb | refine RB.drew ?_))))).mono ?_); (rintro e X2 ⟨A8, n8, c8, rfl, ho8, hb8⟩; clear L2)))
  have SX2 := Lib.hid (show St16 w y W2.heap.size W5.heap.size A n c bs im V m cV U k cU xs X2 from by (go_split_ands; (repeat (with_reducible (first | assumption | refine St16.drew ?_ | refine St16.call ?_ (by assumption))))))
  clear hb7 hb8 O7 KEEP s6
  have hcp := ho8.row.cap
  have P := Lib.hid (parse_any A8 n8 c8 (b2) X2 ho8.rb (HS.out.below' SX2.out.b) hcp.1 (by have := hcp.2; unfold maxLen at this; omega))
  have SO := Lib.hid ho8
  clear hcp ho8
  go_wp2_with (fail)
  (with_reducible refine P.out.mono ?_)
  clear P
  rintro e Wp hp
  obtain ⟨phv, ptv, plv, ppv, pcv, pdv, pV, pm, pcV, pU, pk, pcU, per, rfl, phb, po1, po2, po3, pcase⟩ := parse_abs hp
  clear hp
  have pC := Lib.hid pcase
  have pHB := Lib.hid phb
  clear pcase phb
  go_upto_region 8 with (refine wpList_store_row rfl _ _ _ rfl Wp.heap.size #[ppv, pcv, pdv, .int .u32 (phv : Nat), .slice pV pm pcV, .int .u32 (ptv : Nat), .int .u32 (plv : Nat), .slice pU pk pcU] rfl rfl _ _ (has_new Wp _) (by kernel_rfl) rfl (im_one po1 po2 po3 _ _ _ _ _ _ _ _ _) ?_)
  refine wp_nm fun W9 hWe => ?_
  have ke : W9.heap[Wp.heap.size]? = some (.cells #[ppv, pcv, pdv, .int .u32 (phv : Nat), .slice pV pm pcV, .int .u32 (ptv : Nat), .int .u32 (plv : Nat), .slice pU pk pcU] 28) := by rw [← hWe]; exact setRow_heap _ _ _ _ _ _ (has_new Wp _)
  have he1 : Below Wp.heap.size Wp W9 := by rw [← hWe]; exact below_setRow (kp_alloc (Below.refl _ _) _) (Nat.le_refl _) _
  have Sp := Lib.hid (SX2.out.below (kp_call pHB.out he1))
  have Ep := Lib.hid (And.intro ke (And.intro he1 (kp_call pHB.out he1)))
  clear hWe ke he1
  have b9 := Sp.out.b
  by_cases h0 : kn = 0 ∧ hn = 0
  · have t1 : ((kn : Int) == 0) = true := by rw [h0.1]; rfl
    have t2 : ((hn : Int) == 0) = true := by rw [h0.2]; rfl
    have hq := HP.out.2.1 h0
    obtain ⟨q1, q2, q3, q4, q5⟩ : per = 0 ∧ ptv = 0 ∧ plv = 0 ∧ pk = 0 ∧ pm = m := by
      rcases pC.out with ⟨h1, im', pxs, h2, h3, h4, h5, h6, _⟩ | ⟨_, _, h2⟩
      · rw [hq] at h2
        injection h2 with h2
        subst h2
        refine ⟨h1, h5.symm, h6.symm, ?_, ?_⟩
        · have h7 := h3.bytes
          have h8 : pxs = [] := List.map_eq_nil_iff.1 h7
          rw [h3.kl, h8]; rfl
        · rw [h3.ml, HSE.out.1, HSE.out.2]
          rfl
      · rw [hq] at h2; cases h2
    subst q1 q2 q3 q4 q5
    obtain ⟨z0, z1, z2, z3, z4, z5, z6, z7⟩ := cells_8 Sp.out.i
    obtain ⟨j0, j1, j2, j3, j4, j5, j6, j7⟩ := cells_8 Ep.out.1
    clear hq h0 HP
    go_wp2_with (first
      | (go_at_call 12; (with_reducible refine (works_any _ (HS.out.below' b9)).mono ?_); rintro e w9 ⟨rfl, hb9⟩; have HB9 := Lib.hid (kp_call b9 hb9); clear hb9))
    go_ret
    exact ⟨rfl, HB9.out⟩
  · by_cases hk0 : kn = 0
    · have t1 : ((kn : Int) == 0) = true := by rw [hk0]; rfl
      have t2 : ((hn : Int) == 0) = false := by simp; omega
      clear hk0
      by_cases hkt : kn = im.table
      · by_cases hhl : hn = im.length
        · have hq : per = 0 ∧ ∃ pxs, ppv = .bool im.plus ∧ pcv = .int .i64 (im.check : Nat) ∧ pdv = .int .i64 (im.dir : Nat) ∧ im.hdr = phv ∧ im.table = ptv ∧ im.length = plv ∧ ImRd im pV pm pcV pU pk pcU pxs Wp := by
            rcases pC.out with ⟨h1, im', pxs, h2, h3, h4, h5, h6, h7, h8, h9⟩ | ⟨_, _, h2⟩
            · rw [HP.out.2.2.2 ⟨hkt, hhl⟩, HP.out.1] at h2
              injection h2 with h2
              subst h2
              exact ⟨h1, pxs, h7, h8, h9, h4, h5, h6, h3⟩
            · rw [HP.out.2.2.2 ⟨hkt, hhl⟩, HP.out.1] at h2; cases h2
          obtain ⟨hper, pxs, hq⟩ := hq
          subst hper
          have t5 : ((kn : Int) == (im.table : Int)) = true := by rw [hkt]; simp
          have t6 : ((hn : Int) == (im.length : Int)) = true := by rw [hhl]; simp
          clear h0 HP hkt hhl pC
          obtain ⟨z0, z1, z2, z3, z4, z5, z6, z7⟩ := cells_8 Sp.out.i
          obtain rfl : ppv = .bool im.plus := hq.1
          obtain rfl : pcv = .int .i64 (im.check : Nat) := hq.2.1
          obtain rfl : pdv = .int .i64 (im.dir : Nat) := hq.2.2.1
          obtain rfl : im.hdr = phv := hq.2.2.2.1
          obtain rfl : im.table = ptv := hq.2.2.2.2.1
          obtain rfl : im.length = plv := hq.2.2.2.2.2.1
          have hrd := hq.2.2.2.2.2.2
          have SM := Lib.hid (same_im im V m cV U k cU xs pV pm pcV pU pk pcU pxs W9 Sp.out.r (hrd.below Ep.out.2.1) hmk.1 hmk.2)
          have EI := Lib.hid (show W9.heap[Wp.heap.size]? = some (.cells (imVal im pV pm pcV pU pk pcU) 28) from Ep.out.1)
          clear hrd hq
          go_wp2_with (first
            | (refine wpList_load_rowG rfl _ _ rfl W5.heap.size rfl _ _ _ _ Sp.out.i Tryd.underlying28 rfl (by kernel_rfl) ?_)
            | (refine wpList_load_rowG rfl _ _ rfl Wp.heap.size rfl _ _ _ _ EI.out Tryd.underlying28 rfl (by kernel_rfl) ?_)
            | (go_at_call 14; (with_reducible refine SM.out.mono ?_); rintro e w8 ⟨rfl, hb8⟩; have HB8 := Lib.hid (kp_call Sp.out.b hb8); clear SM hb8)
            | (go_at_call 12; (with_reducible refine (works_any _ (HS.out.below' HB8.out)).mono ?_); rintro e w9 ⟨rfl, hb9⟩; have HB9 := Lib.hid (kp_call HB8.out hb9); clear hb9))
          go_ret
          exact ⟨rfl, HB9.out⟩
        · have t5 : ((kn : Int) == (im.table : Int)) = true := by rw [hkt]; simp
          have t6 : ((hn : Int) == (im.length : Int)) = false := by simp; omega
          clear hkt hhl
          rcases pC.out with ⟨h1, im', pxs, h2, h3, h4, h5, h6, _⟩ | ⟨h1, _, _⟩
          · have hx := HP.out.2.2.1 im' h2 h0
            obtain rfl : ptv = kn := by omega
            obtain rfl : plv = hn := by omega
            have f1 : IntKind.i64.wrap (ptv : Int) = (ptv : Int) := IntWalk.i64_in _ (by omega)
            have f2 : IntKind.i64.wrap (plv : Int) = (plv : Int) := IntWalk.i64_in _ (by omega)
            have f3 : IntKind.i64.wrap ((ptv : Int) + (plv : Int)) = (n : Int) := by rw [IntWalk.i64_in _ (by omega)]; omega
            subst h1
            obtain ⟨z0, z1, z2, z3, z4, z5, z6, z7⟩ := cells_8 Sp.out.i
            obtain ⟨j0, j1, j2, j3, j4, j5, j6, j7⟩ := cells_8 Ep.out.1
            clear h0 HP h2 h3 h4 h5 h6 hx pC
            go_wp2_with (first
              | (go_at_call 12; (with_reducible refine (works_any _ (HS.out.below' b9)).mono ?_); rintro e w9 ⟨rfl, hb9⟩; have HB9 := Lib.hid (kp_call b9 hb9); clear hb9))
            go_ret
            exact ⟨rfl, HB9.out⟩
          · have f4 : ((per : Int) != 0) = true := by simp; omega
            obtain ⟨z0, z1, z2, z3, z4, z5, z6, z7⟩ := cells_8 Sp.out.i
            obtain ⟨j0, j1, j2, j3, j4, j5, j6, j7⟩ := cells_8 Ep.out.1
            clear h0 HP h1 pC
            go_wp2_with (first
              | (go_at_call 12; (with_reducible refine (works_any _ (HS.out.below' b9)).mono ?_); rintro e w9 ⟨rfl, hb9⟩; have HB9 := Lib.hid (kp_call b9 hb9); clear hb9))
            go_ret
            exact ⟨rfl, HB9.out⟩
      · have t5 : ((kn : Int) == (im.table : Int)) = false := by simp; omega
        clear hkt
        rcases pC.out with ⟨h1, im', pxs, h2, h3, h4, h5, h6, _⟩ | ⟨h1, _, _⟩
        · have hx := HP.out.2.2.1 im' h2 h0
          obtain rfl : ptv = kn := by omega
          obtain rfl : plv = hn := by omega
          have f1 : IntKind.i64.wrap (ptv : Int) = (ptv : Int) := IntWalk.i64_in _ (by omega)
          have f2 : IntKind.i64.wrap (plv : Int) = (plv : Int) := IntWalk.i64_in _ (by omega)
          have f3 : IntKind.i64.wrap ((ptv : Int) + (plv : Int)) = (n : Int) := by rw [IntWalk.i64_in _ (by omega)]; omega
          subst h1
          obtain ⟨z0, z1, z2, z3, z4, z5, z6, z7⟩ := cells_8 Sp.out.i
          obtain ⟨j0, j1, j2, j3, j4, j5, j6, j7⟩ := cells_8 Ep.out.1
          clear h0 HP h2 h3 h4 h5 h6 hx pC
          go_wp2_with (first
            | (go_at_call 12; (with_reducible refine (works_any _ (HS.out.below' b9)).mono ?_); rintro e w9 ⟨rfl, hb9⟩; have HB9 := Lib.hid (kp_call b9 hb9); clear hb9))
          go_ret
          exact ⟨rfl, HB9.out⟩
        · have f4 : ((per : Int) != 0) = true := by simp; omega
          obtain ⟨z0, z1, z2, z3, z4, z5, z6, z7⟩ := cells_8 Sp.out.i
          obtain ⟨j0, j1, j2, j3, j4, j5, j6, j7⟩ := cells_8 Ep.out.1
          clear h0 HP h1 pC
          go_wp2_with (first
            | (go_at_call 12; (with_reducible refine (works_any _ (HS.out.below' b9)).mono ?_); rintro e w9 ⟨rfl, hb9⟩; have HB9 := Lib.hid (kp_call b9 hb9); clear hb9))
          go_ret
          exact ⟨rfl, HB9.out⟩
    · have t1 : ((kn : Int) == 0) = false := by simp; omega
      clear hk0
      by_cases hkt : kn = im.table
      · by_cases hhl : hn = im.length
        · have hq : per = 0 ∧ ∃ pxs, ppv = .bool im.plus ∧ pcv = .int .i64 (im.check : Nat) ∧ pdv = .int .i64 (im.dir : Nat) ∧ im.hdr = phv ∧ im.table = ptv ∧ im.length = plv ∧ ImRd im pV pm pcV pU pk pcU pxs Wp := by
            rcases pC.out with ⟨h1, im', pxs, h2, h3, h4, h5, h6, h7, h8, h9⟩ | ⟨_, _, h2⟩
            · rw [HP.out.2.2.2 ⟨hkt, hhl⟩, HP.out.1] at h2
              injection h2 with h2
              subst h2
              exact ⟨h1, pxs, h7, h8, h9, h4, h5, h6, h3⟩
            · rw [HP.out.2.2.2 ⟨hkt, hhl⟩, HP.out.1] at h2; cases h2
          obtain ⟨hper, pxs, hq⟩ := hq
          subst hper
          have t5 : ((kn : Int) == (im.table : Int)) = true := by rw [hkt]; simp
          have t6 : ((hn : Int) == (im.length : Int)) = true := by rw [hhl]; simp
          clear h0 HP hkt hhl pC
          obtain ⟨z0, z1, z2, z3, z4, z5, z6, z7⟩ := cells_8 Sp.out.i
          obtain rfl : ppv = .bool im.plus := hq.1
          obtain rfl : pcv = .int .i64 (im.check : Nat) := hq.2.1
          obtain rfl : pdv = .int .i64 (im.dir : Nat) := hq.2.2.1
          obtain rfl : im.hdr = phv := hq.2.2.2.1
          obtain rfl : im.table = ptv := hq.2.2.2.2.1
          obtain rfl : im.length = plv := hq.2.2.2.2.2.1
          have hrd := hq.2.2.2.2.2.2
          have SM := Lib.hid (same_im im V m cV U k cU xs pV pm pcV pU pk pcU pxs W9 Sp.out.r (hrd.below Ep.out.2.1) hmk.1 hmk.2)
          have EI := Lib.hid (show W9.heap[Wp.heap.size]? = some (.cells (imVal im pV pm pcV pU pk pcU) 28) from Ep.out.1)
          clear hrd hq
          go_wp2_with (first
            | (refine wpList_load_rowG rfl _ _ rfl W5.heap.size rfl _ _ _ _ Sp.out.i Tryd.underlying28 rfl (by kernel_rfl) ?_)
            | (refine wpList_load_rowG rfl _ _ rfl Wp.heap.size rfl _ _ _ _ EI.out Tryd.underlying28 rfl (by kernel_rfl) ?_)
            | (go_at_call 14; (with_reducible refine SM.out.mono ?_); rintro e w8 ⟨rfl, hb8⟩; have HB8 := Lib.hid (kp_call Sp.out.b hb8); clear SM hb8)
            | (go_at_call 12; (with_reducible refine (works_any _ (HS.out.below' HB8.out)).mono ?_); rintro e w9 ⟨rfl, hb9⟩; have HB9 := Lib.hid (kp_call HB8.out hb9); clear hb9))
          go_ret
          exact ⟨rfl, HB9.out⟩
        · have t5 : ((kn : Int) == (im.table : Int)) = true := by rw [hkt]; simp
          have t6 : ((hn : Int) == (im.length : Int)) = false := by simp; omega
          clear hkt hhl
          rcases pC.out with ⟨h1, im', pxs, h2, h3, h4, h5, h6, _⟩ | ⟨h1, _, _⟩
          · have hx := HP.out.2.2.1 im' h2 h0
            obtain rfl : ptv = kn := by omega
            obtain rfl : plv = hn := by omega
            have f1 : IntKind.i64.wrap (ptv : Int) = (ptv : Int) := IntWalk.i64_in _ (by omega)
            have f2 : IntKind.i64.wrap (plv : Int) = (plv : Int) := IntWalk.i64_in _ (by omega)
            have f3 : IntKind.i64.wrap ((ptv : Int) + (plv : Int)) = (n : Int) := by rw [IntWalk.i64_in _ (by omega)]; omega
            subst h1
            obtain ⟨z0, z1, z2, z3, z4, z5, z6, z7⟩ := cells_8 Sp.out.i
            obtain ⟨j0, j1, j2, j3, j4, j5, j6, j7⟩ := cells_8 Ep.out.1
            clear h0 HP h2 h3 h4 h5 h6 hx pC
            go_wp2_with (first
              | (go_at_call 12; (with_reducible refine (works_any _ (HS.out.below' b9)).mono ?_); rintro e w9 ⟨rfl, hb9⟩; have HB9 := Lib.hid (kp_call b9 hb9); clear hb9))
            go_ret
            exact ⟨rfl, HB9.out⟩
          · have f4 : ((per : Int) != 0) = true := by simp; omega
            obtain ⟨z0, z1, z2, z3, z4, z5, z6, z7⟩ := cells_8 Sp.out.i
            obtain ⟨j0, j1, j2, j3, j4, j5, j6, j7⟩ := cells_8 Ep.out.1
            clear h0 HP h1 pC
            go_wp2_with (first
              | (go_at_call 12; (with_reducible refine (works_any _ (HS.out.below' b9)).mono ?_); rintro e w9 ⟨rfl, hb9⟩; have HB9 := Lib.hid (kp_call b9 hb9); clear hb9))
            go_ret
            exact ⟨rfl, HB9.out⟩
      · have t5 : ((kn : Int) == (im.table : Int)) = false := by simp; omega
        clear hkt
        rcases pC.out with ⟨h1, im', pxs, h2, h3, h4, h5, h6, _⟩ | ⟨h1, _, _⟩
        · have hx := HP.out.2.2.1 im' h2 h0
          obtain rfl : ptv = kn := by omega
          obtain rfl : plv = hn := by omega
          have f1 : IntKind.i64.wrap (ptv : Int) = (ptv : Int) := IntWalk.i64_in _ (by omega)
          have f2 : IntKind.i64.wrap (plv : Int) = (plv : Int) := IntWalk.i64_in _ (by omega)
          have f3 : IntKind.i64.wrap ((ptv : Int) + (plv : Int)) = (n : Int) := by rw [IntWalk.i64_in _ (by omega)]; omega
          subst h1
          obtain ⟨z0, z1, z2, z3, z4, z5, z6, z7⟩ := cells_8 Sp.out.i
          obtain ⟨j0, j1, j2, j3, j4, j5, j6, j7⟩ := cells_8 Ep.out.1
          clear h0 HP h2 h3 h4 h5 h6 hx pC
          go_wp2_with (first
            | (go_at_call 12; (with_reducible refine (works_any _ (HS.out.below' b9)).mono ?_); rintro e w9 ⟨rfl, hb9⟩; have HB9 := Lib.hid (kp_call b9 hb9); clear hb9))
          go_ret
          exact ⟨rfl, HB9.out⟩
        · have f4 : ((per : Int) != 0) = true := by simp; omega
          obtain ⟨z0, z1, z2, z3, z4, z5, z6, z7⟩ := cells_8 Sp.out.i
          obtain ⟨j0, j1, j2, j3, j4, j5, j6, j7⟩ := cells_8 Ep.out.1
          clear h0 HP h1 pC
          go_wp2_with (first
            | (go_at_call 12; (with_reducible refine (works_any _ (HS.out.below' b9)).mono ?_); rintro e w9 ⟨rfl, hb9⟩; have HB9 := Lib.hid (kp_call b9 hb9); clear hb9))
          go_ret
          exact ⟨rfl, HB9.out⟩
end Go.Proofs.YtjfpiidofbjdhaaDoor
