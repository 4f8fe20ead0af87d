/-
  pe: the statement on the checksum
-/
import Derived.Test.YtjfpiidofbjdhaaDoorPeY
import Derived.Test.YtjfpiidofbjdhaaDoorPeAg
namespace Go.Proofs.YtjfpiidofbjdhaaDoor
open Go.RowKit Go
set_option linter.unusedVariables false
set_option linter.unusedSimpArgs false
set_option maxRecDepth 100000
set_option maxHeartbeats 16000000 in
theorem checks_row (tn : Tn) (w : World) (hx : IsTn w tn) (hT : Sizes w) :
    Calls Tryd.prog 8 #[tn.val] w fun e w' => e = .returned (.bool true) ∧ Below w.heap.size w w' := by
  obtain ⟨x, ci, ai, vi⟩ := tn
  obtain ⟨hx, h1, h2, h3⟩ := hx
  unfold Tn.val Tn.cells
  dsimp only at hx h1 h2 h3 ⊢
  obtain ⟨ck, rfl⟩ : ∃ ck : Nat, ci = (ck : Int) := ⟨ci.toNat, by omega⟩
  obtain ⟨an, rfl⟩ : ∃ an : Nat, ai = (an : Int) := ⟨ai.toNat, by omega⟩
  obtain ⟨vn, rfl⟩ : ∃ vn : Nat, vi = (vn : Int) := ⟨vi.toNat, by omega⟩
  have HX := Lib.hid hx
  have HS := Lib.hid hT
  clear hx hT
  go_enter Tryd.func8, Tryd.ntmps8
  go_upto_region 1 with (fail)
  refine wp_nm fun W0 hW0 => ?_
  have k0 : W0.heap[w.heap.size]? = some (.cells #[.bool x.plus, .slice x.sA x.sn x.sc, .slice x.fA x.fn x.fc, .slice x.bA x.bn x.bc, .slice x.oA x.on x.oc, .slice x.hA x.hn x.hc, .slice x.gA x.gn x.gc, .int .u32 (ck : Nat), .int .u16 (an : Nat), .int .u8 (vn : Nat)] 54) := by rw [← hW0]; exact has_new w _
  have hb0 : Below w.heap.size w W0 := by rw [← hW0]; exact kp_alloc (Below.refl _ _) _
  have KX := Lib.hid (And.intro k0 hb0)
  have CB := Lib.hid (brought_any x W0 (HX.out.r.below hb0) HX.out.lc HX.out.cc HX.out.bc HX.out.gc HX.out.bn)
  unfold Shp.cells at CB
  have y0 : W0.cell? ⟨w.heap.size, 0, none⟩ = some (.bool x.plus) := (Lib.cell_of_heap k0 0).trans rfl
  have y1 : W0.cell? ⟨w.heap.size, 1, none⟩ = some (.slice x.sA x.sn x.sc) := (Lib.cell_of_heap k0 1).trans rfl
  have y2 : W0.cell? ⟨w.heap.size, 2, none⟩ = some (.slice x.fA x.fn x.fc) := (Lib.cell_of_heap k0 2).trans rfl
  have y3 : W0.cell? ⟨w.heap.size, 3, none⟩ = some (.slice x.bA x.bn x.bc) := (Lib.cell_of_heap k0 3).trans rfl
  have y4 : W0.cell? ⟨w.heap.size, 4, none⟩ = some (.slice x.oA x.on x.oc) := (Lib.cell_of_heap k0 4).trans rfl
  have y5 : W0.cell? ⟨w.heap.size, 5, none⟩ = some (.slice x.hA x.hn x.hc) := (Lib.cell_of_heap k0 5).trans rfl
  have y6 : W0.cell? ⟨w.heap.size, 6, none⟩ = some (.slice x.gA x.gn x.gc) := (Lib.cell_of_heap k0 6).trans rfl
  clear hW0 k0 hb0
  go_wp2_with (fail)
  (with_reducible refine CB.out.mono ?_)
  clear CB
  rintro e W2 ⟨y, rfl, hy, hb2, hpl, hst, hfi, hbe, hor, hbo, hsi, hgc⟩
  have hB := brd HX.out hy hst hfi hbe hor hbo hsi hgc
  have H2 := Lib.hid (And.intro hy (And.intro (kp_call KX.out.2 hb2) (And.intro hB (And.intro (has_below KX.out.1 hb2) hpl))))
  clear hy hb2 hpl hst hfi hbe hor hbo hsi hB hgc
  go_upto_region 2 with (refine wpList_store_row rfl _ _ _ rfl W2.heap.size y.cells rfl rfl _ _ (has_new W2 _) (by kernel_rfl) rfl (by simp [Shp.cells, Value.oneCell']) ?_)
  refine wp_nm fun W3 hW3 => ?_
  have k3 : W3.heap[W2.heap.size]? = some (.cells y.cells 39) := by rw [← hW3]; exact setRow_heap _ _ _ _ _ _ (has_new W2 _)
  have hb3 : Below W2.heap.size W2 W3 := by rw [← hW3]; exact below_setRow (kp_alloc (Below.refl _ _) _) (Nat.le_refl _) _
  have H3 := Lib.hid (And.intro k3 (And.intro (H2.out.1.below hb3) (And.intro (kp_call H2.out.2.1 hb3) (And.intro H2.out.2.2.1 (And.intro (has_below H2.out.2.2.2.1 hb3) H2.out.2.2.2.2)))))
  have HW2 := Lib.hid H2.out.2.1.size
  have HYB := Lib.hid (And.intro H2.out.1 hb3)
  have HKX := Lib.hid H2.out.2.2.2.1
  have HBW := Lib.hid H2.out.2.1
  clear hW3 k3 hb3 KX H2
  clear y0 y1 y2 y3 y4 y5 y6
  have C := Lib.hid (writeD_any y W3 H3.out.2.1 H3.out.2.2.2.1.s1 H3.out.2.2.2.1.s2 H3.out.2.2.2.1.s3 H3.out.2.2.2.1.s4)
  obtain ⟨t, l, hM, hlen⟩ := write_made y.plus y.stub y.fill (y.bod.map fun z => z.2.2.2) y.ord y.beh (y.sig.map fun z => z.2.2.2) H3.out.2.2.2.1.bd
  obtain ⟨bs, hbs⟩ : ∃ bs, writeL y.plus y.stub y.fill (y.bod.map fun z => z.2.2.2) y.ord y.beh (y.sig.map fun z => z.2.2.2) = bs := ⟨_, rfl⟩
  rw [hbs] at C hM hlen
  have HM := Lib.hid (And.intro hM hlen)
  clear hM hlen hbs
  go_wp2_with (refine wpList_load_row rfl _ _ rfl W2.heap.size rfl _ _ _ _ H3.out.1 Tryd.underlying39 rfl (by kernel_rfl) ?_)
  (with_reducible refine C.out.mono ?_)
  rintro e W4 ⟨A, n, c, rfl, ho4, hb4⟩
  clear C
  have hb4' := kp_call H3.out.2.2.1 hb4
  have hcap := ho4.row.cap
  have P1 := Lib.hid (parse_any A n c bs W4 ho4.rb (HS.out.below' hb4') hcap.1 (by have := hcap.2; unfold maxLen at this; omega))
  have H4 := Lib.hid (And.intro (has_below H3.out.1 hb4) (And.intro (H3.out.2.1.below hb4) (And.intro hb4' (And.intro H3.out.2.2.2.1 (And.intro (has_below H3.out.2.2.2.2.1 hb4) (And.intro H3.out.2.2.2.2.2 (And.intro (ho4.lower H3.out.2.2.1.size) (And.intro hcap ho4.len))))))))
  clear ho4 hb4 hb4' hcap H3
  go_wp2_with (fail)
  (with_reducible refine P1.out.mono ?_)
  clear P1
  rintro e W5 ⟨hp, hb5⟩
  rw [HM.out.1.parse, if_neg (by have := H4.out.2.2.2.1.g8; have := H4.out.2.2.2.1.ng; omega)] at hp
  obtain ⟨im, him⟩ : ∃ im, imL y.plus (peL y.stub) (y.bod.map fun z => z.2.2.2).length (hdL y.plus y.stub y.fill (y.bod.map fun z => z.2.2.2).length) (y.bod.map fun z => z.2.2.2) (ordL (y.bod.map fun z => z.2.2.2).length y.ord) t l (y.sig.map fun z => z.2.2.2) = im := ⟨_, rfl⟩
  rw [him] at hp
  obtain ⟨V, m, cV, U, k, cU, xs, rfl, hio⟩ := hp
  have H5 := Lib.hid (And.intro (has_below H4.out.1 hb5) (And.intro (H4.out.2.1.below hb5) (And.intro (kp_call H4.out.2.2.1 hb5) (And.intro hio.rd (H4.out.2.2.2.2.2.2.1.below hb5 (Nat.le_refl _))))))
  have HB := Lib.hid (And.intro H4.out.2.2.2.1 (And.intro H4.out.2.2.2.2.2.1 (And.intro H4.out.2.2.2.2.2.2.2.1 (And.intro H4.out.2.2.2.2.2.2.2.2 him))))
  have HK0 := Lib.hid (has_below H4.out.2.2.2.2.1 hb5)
  clear hio hb5 him H4
  go_upto_region 4 with (refine wpList_store_row rfl _ _ _ rfl W5.heap.size (imVal im V m cV U k cU) rfl rfl _ _ (has_new W5 _) (by kernel_rfl) rfl (by simp [imVal, Value.oneCell']) ?_)
  refine wp_nm fun W6 hW6 => ?_
  have k6 : W6.heap[W5.heap.size]? = some (.cells (imVal im V m cV U k cU) 28) := by rw [← hW6]; exact setRow_heap _ _ _ _ _ _ (has_new W5 _)
  have hb6 : Below W5.heap.size W5 W6 := by rw [← hW6]; exact below_setRow (kp_alloc (Below.refl _ _) _) (Nat.le_refl _) _
  have S6 := Lib.hid (show St16 w y W2.heap.size W5.heap.size A n c bs im V m cV U k cU xs W6 from ⟨has_below H5.out.1 hb6, k6, H5.out.2.2.2.2.below hb6 (Nat.le_refl _), H5.out.2.2.2.1.below hb6, H5.out.2.1.below hb6, kp_call H5.out.2.2.1 hb6⟩)
  have HK6 := Lib.hid (has_below HK0.out hb6)
  clear hW6 k6 hb6 H5 HK0
  have hm := HM.out.1.m
  have d1 : im.dir = peL y.stub + sizeL y.plus - 72 := by rw [← HB.out.2.2.2.2]; rfl
  have d2 : im.check = peL y.stub + 88 := by rw [← HB.out.2.2.2.2]; rfl
  have d3 : im.hdr = hdL y.plus y.stub y.fill (y.bod.map fun z => z.2.2.2).length := by rw [← HB.out.2.2.2.2]; rfl
  have d4 : im.table = t := by rw [← HB.out.2.2.2.2]; rfl
  have d5 : im.length = l := by rw [← HB.out.2.2.2.2]; rfl
  have d6 : im.sigs = y.sig.map fun z => z.2.2.2 := by rw [← HB.out.2.2.2.2]; rfl
  have m1 := hm.hp
  have m2 := hm.hh
  have m3 := hm.len
  have m4 := HM.out.1.big
  have m5 := sizeL_two y.plus
  have m6 := hm.hn
  have bl : bs.length = n := HB.out.2.2.2.1
  have nb : y.bn = (y.bod.map fun z => z.2.2.2).length := HB.out.1.nb
  have hpar : parseQ bs = .inr im := by
    have h9 := HM.out.1.parse
    rw [if_neg (by have := HB.out.1.g8; have := HB.out.1.ng; omega), HB.out.2.2.2.2] at h9
    exact h9
  have hmk : m ≤ 1000 ∧ k ≤ 1000 := by
    have h1 := S6.out.r.ml
    have h2 := S6.out.r.kl
    have h3 := congrArg List.length S6.out.r.bytes
    rw [List.length_map, d6] at h3
    have h4 : im.secs.length ≤ (y.bod.map fun z => z.2.2.2).length := by
      rw [← HB.out.2.2.2.2]
      simp only [imL, plcL, List.length_map]
      have := List.length_filter_le (fun i => decide (0 < ((y.bod.map fun z => z.2.2.2).getD i []).length)) (List.range (y.bod.map fun z => z.2.2.2).length)
      rw [List.length_range] at this
      simpa using this
    have h5 := HB.out.1.s1
    have h6 := HB.out.1.ng
    omega
  have hz : im.check + 4 ≤ n ∧ n ≤ 100000 ∧ l ≤ n ∧ im.hdr ≤ n := by
    refine ⟨by omega, by omega, ?_, by omega⟩
    by_cases h0 : (y.sig.map fun z => z.2.2.2) = []
    · rw [(HM.out.1.no h0).2]; omega
    · obtain ⟨_, _, h5, _⟩ := HM.out.1.yes h0; omega
  obtain ⟨en, hen⟩ : ∃ en, n - l = en := ⟨_, rfl⟩
  have e0 : IntKind.u64.wrap (ck : Int) = (ck : Int) := IntWalk.u64_in _ (by omega)
  have e1 : IntKind.i64.wrap (im.length : Int) = (im.length : Int) := IntWalk.i64_in _ (by omega)
  have e2 : IntKind.i64.wrap ((n : Int) - (im.length : Int)) = (en : Int) := by rw [IntWalk.i64_in _ (by omega)]; omega
  have e3 : IntKind.i64.wrap (im.hdr : Int) = (im.hdr : Int) := IntWalk.i64_in _ (by omega)
  obtain ⟨b1, hb1⟩ : ∃ b1, putL bs im.check ck 4 = b1 := ⟨_, rfl⟩
  have hl1 : b1.length = n := by rw [← hb1, putL_len _ _ _ _ (by omega), bl]
  have P1 : parseQ b1 = .inr im := by
    rw [HM.out.1.check b1 (by omega) (fun i hi _ => by rw [← hb1]; exact put_other (by omega) (by omega))]
    exact hpar
  have P2 : ∀ po, im.hdr ≤ po → po < en → parseQ (putL b1 po vn 1) = .inr im := fun po h1 h2 => by
    rw [HM.out.1.check (putL b1 po vn 1) (by rw [putL_len _ _ _ _ (by omega)]; omega) (fun i hi h3 => by rw [put_other (by omega) (by omega), ← hb1]; exact put_other (by omega) (by omega))]
    exact hpar
  have L1 := Lib.hid (laid_any A n c bs (im.check : Nat) (ck : Nat) 4 im.check ck 4 W6 S6.out.o.rb rfl rfl rfl (by omega) (by decide) (by omega) (by omega))
  rw [hb1] at L1
  have HP := Lib.hid (And.intro P1 P2)
  have HE := Lib.hid (And.intro hen d5)
  have HK := Lib.hid HK6.out
  have x7 : W6.cell? ⟨w.heap.size, 7, none⟩ = some (.int .u32 (ck : Nat)) := (Lib.cell_of_heap HK6.out 7).trans rfl
  obtain ⟨z0, z1, z2, z3, z4, z5, z6, z7⟩ := cells_8 S6.out.i
  have hl1' := hl1
  have hzz : im.hdr ≤ n ∧ n ≤ 100000 ∧ en ≤ n := by omega
  clear P1 P2 hpar hm d1 d2 d3 d4 d5 d6 m1 m2 m3 m4 m5 m6 bl nb hb1 hen hz hl1
  go_upto_region 7 with (first
    | (go_at_call 24; (with_reducible refine L1.out.mono ?_); rintro e W7 ⟨A7, n7, c7, rfl, ho7, hb7⟩; have S7 := Lib.hid (S6.out.below hb7); have O7 := Lib.hid ho7; have B7 := Lib.hid hb7; clear L1 hb7 ho7))
  clear z0 z1 z2 z3 z4 z5 z6 z7 x7
  obtain ⟨z0, z1, z2, z3, z4, z5, z6, z7⟩ := cells_8 S7.out.i
  have HK7 := Lib.hid (has_below HK.out B7.out)
  obtain rfl : n7 = n := by have h1 := O7.out.len; omega
  by_cases hhe : im.hdr < en
  · have t1 : decide ((im.hdr : Int) < (en : Int)) = true := by simp; omega
    have t1n : decide (im.hdr < en) = true := by simp; omega
    obtain ⟨dn, hdn⟩ : ∃ dn, en - im.hdr = dn := ⟨_, rfl⟩
    have e4 : IntKind.i64.wrap ((en : Int) - (im.hdr : Int)) = (dn : Int) := by rw [IntWalk.i64_in _ (by omega)]; omega
    have e5 : IntKind.i64.wrap (an : Int) = (an : Int) := IntWalk.i64_in _ (by omega)
    obtain ⟨jj, hjj⟩ : ∃ jj, an % dn = jj := ⟨_, rfl⟩
    have hjd : jj < dn := by rw [← hjj]; exact Nat.mod_lt _ (by omega)
    have e6 : (an : Int).tmod (dn : Int) = (jj : Int) := by rw [Int.tmod_eq_emod_of_nonneg (by omega)]; omega
    have e7 : IntKind.i64.wrap (jj : Int) = (jj : Int) := IntWalk.i64_in _ (by omega)
    have nz : ¬ (dn : Int) = 0 := by omega
    have nzn : ¬ dn = 0 := by omega
    obtain ⟨po, hpo⟩ : ∃ po, im.hdr + jj = po := ⟨_, rfl⟩
    have e8 : IntKind.i64.wrap ((im.hdr : Int) + (jj : Int)) = (po : Int) := by rw [IntWalk.i64_in _ (by omega)]; omega
    have e9 : IntKind.u64.wrap (vn : Int) = (vn : Int) := IntWalk.u64_in _ (by omega)
    have P3 := Lib.hid (HP.out.2 po (by omega) (by omega))
    have L2 := Lib.hid (fun W (h : RB W A7 n7 b1) => laid_any A7 n7 c7 b1 (po : Nat) (vn : Nat) 1 po vn 1 W h rfl rfl rfl (by omega) (by decide) (by omega) (by omega))
    have y8 : W7.cell? ⟨w.heap.size, 8, none⟩ = some (.int .u16 (an : Nat)) := (Lib.cell_of_heap HK7.out 8).trans rfl
    have y9 : W7.cell? ⟨w.heap.size, 9, none⟩ = some (.int .u8 (vn : Nat)) := (Lib.cell_of_heap HK7.out 9).trans rfl
    clear hdn hjj hpo hhe
    go_upto_region 9 with (fail)
    refine wp_region_still_tail 17 (by kernel_rfl) (by kernel_rfl) ?_
    simp only [List.take_succ_cons, List.take_zero, List.drop_succ_cons, List.drop_zero]
    iterate 17 ((with_reducible refine wpStill_step (fun K hK => ?_)); go_simp; (with_reducible refine hK _ ?_); clear hK K)
    with_reducible refine wpStill_nil ?_
    change wpList _ _ _ _ _ W7.drew
    clear z0 z1 z2 z3 z4 z5 z6 z7 y8 y9
    have S7d := Lib.hid S7.out.drew
    go_wp2_with (first
      | (go_at_call 24; (with_reducible refine (L2.out _ (O7.out.rb.drew)).mono ?_); rintro e W8 ⟨A8, n8, c8, rfl, ho8, hb8⟩; have S8 := Lib.hid (S7d.out.below hb8); clear L2 hb8))
    have hcp := ho8.row.cap
    have P := Lib.hid (parse_any A8 n8 c8 (putL b1 po vn 1) W8 ho8.rb (HS.out.below' S8.out.b) hcp.1 (by have := hcp.2; unfold maxLen at this; omega))
    have SO := Lib.hid ho8
    clear hcp ho8
    go_wp2_with (fail)
    (with_reducible refine P.out.mono ?_)
    clear P
    rintro e Wp hp
    obtain ⟨phv, ptv, plv, ppv, pcv, pdv, pV, pm, pcV, pU, pk, pcU, per, rfl, phb, po1, po2, po3, pcase⟩ := parse_abs hp
    clear hp
    have pC := Lib.hid pcase
    have pHB := Lib.hid phb
    clear pcase phb
    go_upto_region 11 with (refine wpList_store_row rfl _ _ _ rfl Wp.heap.size #[ppv, pcv, pdv, .int .u32 (phv : Nat), .slice pV pm pcV, .int .u32 (ptv : Nat), .int .u32 (plv : Nat), .slice pU pk pcU] rfl rfl _ _ (has_new Wp _) (by kernel_rfl) rfl (im_one po1 po2 po3 _ _ _ _ _ _ _ _ _) ?_)
    refine wp_nm fun W9 hWe => ?_
    have ke : W9.heap[Wp.heap.size]? = some (.cells #[ppv, pcv, pdv, .int .u32 (phv : Nat), .slice pV pm pcV, .int .u32 (ptv : Nat), .int .u32 (plv : Nat), .slice pU pk pcU] 28) := by rw [← hWe]; exact setRow_heap _ _ _ _ _ _ (has_new Wp _)
    have he1 : Below Wp.heap.size Wp W9 := by rw [← hWe]; exact below_setRow (kp_alloc (Below.refl _ _) _) (Nat.le_refl _) _
    have Sp := Lib.hid (S8.out.below (kp_call pHB.out he1))
    have Ep := Lib.hid (And.intro ke (And.intro he1 (kp_call pHB.out he1)))
    clear hWe ke he1
    have hq : per = 0 ∧ ∃ pxs, ppv = .bool im.plus ∧ pcv = .int .i64 (im.check : Nat) ∧ pdv = .int .i64 (im.dir : Nat) ∧ im.hdr = phv ∧ im.table = ptv ∧ im.length = plv ∧ ImRd im pV pm pcV pU pk pcU pxs Wp := by
      rcases pC.out with ⟨h1, im', pxs, h2, h3, h4, h5, h6, h7, h8, h9⟩ | ⟨_, _, h2⟩
      · rw [P3.out] at h2
        injection h2 with h2
        subst h2
        exact ⟨h1, pxs, h7, h8, h9, h4, h5, h6, h3⟩
      · rw [P3.out] at h2; cases h2
    obtain ⟨hper, pxs, hq⟩ := hq
    subst hper
    clear HP pC P3
    obtain rfl : ppv = .bool im.plus := hq.1
    obtain rfl : pcv = .int .i64 (im.check : Nat) := hq.2.1
    obtain rfl : pdv = .int .i64 (im.dir : Nat) := hq.2.2.1
    obtain rfl : im.hdr = phv := hq.2.2.2.1
    obtain rfl : im.table = ptv := hq.2.2.2.2.1
    obtain rfl : im.length = plv := hq.2.2.2.2.2.1
    have hrd := hq.2.2.2.2.2.2
    have SM := Lib.hid (same_im im V m cV U k cU xs pV pm pcV pU pk pcU pxs W9 Sp.out.r (hrd.below Ep.out.2.1) hmk.1 hmk.2)
    have EI := Lib.hid (show W9.heap[Wp.heap.size]? = some (.cells (imVal im pV pm pcV pU pk pcU) 28) from Ep.out.1)
    clear hrd hq
    go_wp2_with (first
      | (refine wpList_load_rowG rfl _ _ rfl W5.heap.size rfl _ _ _ _ Sp.out.i Tryd.underlying28 rfl (by kernel_rfl) ?_)
      | (refine wpList_load_rowG rfl _ _ rfl Wp.heap.size rfl _ _ _ _ EI.out Tryd.underlying28 rfl (by kernel_rfl) ?_)
      | (go_at_call 14; (with_reducible refine SM.out.mono ?_); rintro e w8 ⟨rfl, hb8⟩; have HB8 := Lib.hid (kp_call Sp.out.b hb8); clear SM hb8)
      | (go_at_call 12; (with_reducible refine (works_any _ (HS.out.below' HB8.out)).mono ?_); rintro e w9 ⟨rfl, hb9⟩; have HB9 := Lib.hid (kp_call HB8.out hb9); clear hb9))
    go_ret
    exact ⟨rfl, HB9.out⟩
  · have t1 : decide ((im.hdr : Int) < (en : Int)) = false := by simp; omega
    have t1n : decide (im.hdr < en) = false := by simp; omega
    have ho7 := O7.out
    clear hhe
    go_upto_region 10 with (fail)
    clear z0 z1 z2 z3 z4 z5 z6 z7
    have hcp := ho7.row.cap
    have P := Lib.hid (parse_any A7 n7 c7 (b1) W7 ho7.rb (HS.out.below' S7.out.b) hcp.1 (by have := hcp.2; unfold maxLen at this; omega))
    have SO := Lib.hid ho7
    clear hcp ho7
    go_wp2_with (fail)
    (with_reducible refine P.out.mono ?_)
    clear P
    rintro e Wp hp
    obtain ⟨phv, ptv, plv, ppv, pcv, pdv, pV, pm, pcV, pU, pk, pcU, per, rfl, phb, po1, po2, po3, pcase⟩ := parse_abs hp
    clear hp
    have pC := Lib.hid pcase
    have pHB := Lib.hid phb
    clear pcase phb
    go_upto_region 11 with (refine wpList_store_row rfl _ _ _ rfl Wp.heap.size #[ppv, pcv, pdv, .int .u32 (phv : Nat), .slice pV pm pcV, .int .u32 (ptv : Nat), .int .u32 (plv : Nat), .slice pU pk pcU] rfl rfl _ _ (has_new Wp _) (by kernel_rfl) rfl (im_one po1 po2 po3 _ _ _ _ _ _ _ _ _) ?_)
    refine wp_nm fun W9 hWe => ?_
    have ke : W9.heap[Wp.heap.size]? = some (.cells #[ppv, pcv, pdv, .int .u32 (phv : Nat), .slice pV pm pcV, .int .u32 (ptv : Nat), .int .u32 (plv : Nat), .slice pU pk pcU] 28) := by rw [← hWe]; exact setRow_heap _ _ _ _ _ _ (has_new Wp _)
    have he1 : Below Wp.heap.size Wp W9 := by rw [← hWe]; exact below_setRow (kp_alloc (Below.refl _ _) _) (Nat.le_refl _) _
    have Sp := Lib.hid (S7.out.below (kp_call pHB.out he1))
    have Ep := Lib.hid (And.intro ke (And.intro he1 (kp_call pHB.out he1)))
    clear hWe ke he1
    have hq : per = 0 ∧ ∃ pxs, ppv = .bool im.plus ∧ pcv = .int .i64 (im.check : Nat) ∧ pdv = .int .i64 (im.dir : Nat) ∧ im.hdr = phv ∧ im.table = ptv ∧ im.length = plv ∧ ImRd im pV pm pcV pU pk pcU pxs Wp := by
      rcases pC.out with ⟨h1, im', pxs, h2, h3, h4, h5, h6, h7, h8, h9⟩ | ⟨_, _, h2⟩
      · rw [HP.out.1] at h2
        injection h2 with h2
        subst h2
        exact ⟨h1, pxs, h7, h8, h9, h4, h5, h6, h3⟩
      · rw [HP.out.1] at h2; cases h2
    obtain ⟨hper, pxs, hq⟩ := hq
    subst hper
    clear HP pC
    obtain rfl : ppv = .bool im.plus := hq.1
    obtain rfl : pcv = .int .i64 (im.check : Nat) := hq.2.1
    obtain rfl : pdv = .int .i64 (im.dir : Nat) := hq.2.2.1
    obtain rfl : im.hdr = phv := hq.2.2.2.1
    obtain rfl : im.table = ptv := hq.2.2.2.2.1
    obtain rfl : im.length = plv := hq.2.2.2.2.2.1
    have hrd := hq.2.2.2.2.2.2
    have SM := Lib.hid (same_im im V m cV U k cU xs pV pm pcV pU pk pcU pxs W9 Sp.out.r (hrd.below Ep.out.2.1) hmk.1 hmk.2)
    have EI := Lib.hid (show W9.heap[Wp.heap.size]? = some (.cells (imVal im pV pm pcV pU pk pcU) 28) from Ep.out.1)
    clear hrd hq
    go_wp2_with (first
      | (refine wpList_load_rowG rfl _ _ rfl W5.heap.size rfl _ _ _ _ Sp.out.i Tryd.underlying28 rfl (by kernel_rfl) ?_)
      | (refine wpList_load_rowG rfl _ _ rfl Wp.heap.size rfl _ _ _ _ EI.out Tryd.underlying28 rfl (by kernel_rfl) ?_)
      | (go_at_call 14; (with_reducible refine SM.out.mono ?_); rintro e w8 ⟨rfl, hb8⟩; have HB8 := Lib.hid (kp_call Sp.out.b hb8); clear SM hb8)
      | (go_at_call 12; (with_reducible refine (works_any _ (HS.out.below' HB8.out)).mono ?_); rintro e w9 ⟨rfl, hb9⟩; have HB9 := Lib.hid (kp_call HB8.out hb9); clear hb9))
    go_ret
    exact ⟨rfl, HB9.out⟩
end Go.Proofs.YtjfpiidofbjdhaaDoor
