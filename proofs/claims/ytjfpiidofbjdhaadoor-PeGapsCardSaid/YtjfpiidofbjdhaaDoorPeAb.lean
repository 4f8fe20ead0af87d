/-
  pe: the statement on gaps
-/
import Derived.Test.YtjfpiidofbjdhaaDoorPeY
namespace Go.Proofs.YtjfpiidofbjdhaaDoor
open Go.RowKit Go
set_option linter.unusedVariables false
set_option linter.unusedSimpArgs false
set_option maxRecDepth 100000
set_option maxHeartbeats 16000000 in
theorem gaps_row (x : Shp) (wv hv : Int) (w : World) (hx : IsShp w x) (hk : (Lit.int .u8 wv).wf = true) (hh : (Lit.int .u32 hv).wf = true) (hT : Sizes w) :
    Calls Tryd.prog 7 #[x.val, .int .u8 wv, .int .u32 hv] w fun e w' => e = .returned (.bool true) ∧ Below w.heap.size w w' := by
  unfold Shp.val
  replace hk := bounds_u8 hk
  replace hh := bounds_u32 hh
  obtain ⟨wn, rfl⟩ : ∃ wn : Nat, wv = (wn : Int) := ⟨wv.toNat, by omega⟩
  obtain ⟨hn, rfl⟩ : ∃ hn : Nat, hv = (hn : Int) := ⟨hv.toNat, by omega⟩
  have HX := Lib.hid hx
  have HS := Lib.hid hT
  clear hx hT
  go_enter Tryd.func7, Tryd.ntmps7
  go_upto_region 1 with (fail)
  refine wp_nm fun W0 hW0 => ?_
  have k0 : W0.heap[w.heap.size]? = some (.cells x.cells 39) := by rw [← hW0]; exact has_new w _
  have hb0 : Below w.heap.size w W0 := by rw [← hW0]; exact kp_alloc (Below.refl _ _) _
  have KX := Lib.hid (And.intro k0 hb0)
  have CB := Lib.hid (brought_any x W0 (HX.out.r.below hb0) HX.out.lc HX.out.cc HX.out.bc HX.out.gc HX.out.bn)
  clear hW0 k0 hb0
  go_wp2_with (refine wpList_load_row rfl _ _ rfl w.heap.size rfl _ _ _ _ KX.out.1 Tryd.underlying39 rfl (by kernel_rfl) ?_)
  (with_reducible refine CB.out.mono ?_)
  clear CB
  rintro e W2 ⟨y, rfl, hy, hb2, hpl, hst, hfi, hbe, hor, hbo, hsi⟩
  have hB := brd HX.out hy hst hfi hbe hor hbo hsi
  have H2 := Lib.hid (And.intro hy (And.intro (kp_call KX.out.2 hb2) (And.intro hB (And.intro (has_below KX.out.1 hb2) hpl))))
  clear hy hb2 hpl hst hfi hbe hor hbo hsi hB
  go_upto_region 2 with (refine wpList_store_row rfl _ _ _ rfl W2.heap.size y.cells rfl rfl _ _ (has_new W2 _) (by kernel_rfl) rfl (by simp [Shp.cells, Value.oneCell']) ?_)
  refine wp_nm fun W3 hW3 => ?_
  have k3 : W3.heap[W2.heap.size]? = some (.cells y.cells 39) := by rw [← hW3]; exact setRow_heap _ _ _ _ _ _ (has_new W2 _)
  have hb3 : Below W2.heap.size W2 W3 := by rw [← hW3]; exact below_setRow (kp_alloc (Below.refl _ _) _) (Nat.le_refl _) _
  have H3 := Lib.hid (And.intro k3 (And.intro (H2.out.1.below hb3) (And.intro (kp_call H2.out.2.1 hb3) (And.intro H2.out.2.2.1 (And.intro (has_below H2.out.2.2.2.1 hb3) H2.out.2.2.2.2)))))
  clear hW3 k3 hb3 KX H2
  have C := Lib.hid (writeD_any y W3 H3.out.2.1 H3.out.2.2.2.1.s1 H3.out.2.2.2.1.s2 H3.out.2.2.2.1.s3 H3.out.2.2.2.1.s4)
  obtain ⟨t, l, hM, hlen⟩ := write_made y.plus y.stub y.fill (y.bod.map fun z => z.2.2.2) y.ord y.beh (y.sig.map fun z => z.2.2.2) H3.out.2.2.2.1.bd
  obtain ⟨bs, hbs⟩ : ∃ bs, writeL y.plus y.stub y.fill (y.bod.map fun z => z.2.2.2) y.ord y.beh (y.sig.map fun z => z.2.2.2) = bs := ⟨_, rfl⟩
  rw [hbs] at C hM hlen
  have HM := Lib.hid (And.intro hM hlen)
  clear hM hlen hbs
  go_wp2_with (refine wpList_load_row rfl _ _ rfl W2.heap.size rfl _ _ _ _ H3.out.1 Tryd.underlying39 rfl (by kernel_rfl) ?_)
  (with_reducible refine C.out.mono ?_)
  rintro e W4 ⟨A, n, c, rfl, ho4, hb4⟩
  clear C
  have hb4' := kp_call H3.out.2.2.1 hb4
  have hcap := ho4.row.cap
  have P1 := Lib.hid (parse_any A n c bs W4 ho4.rb (HS.out.below' hb4') hcap.1 (by have := hcap.2; unfold maxLen at this; omega))
  have H4 := Lib.hid (And.intro (has_below H3.out.1 hb4) (And.intro (H3.out.2.1.below hb4) (And.intro hb4' (And.intro H3.out.2.2.2.1 (And.intro (has_below H3.out.2.2.2.2.1 hb4) (And.intro H3.out.2.2.2.2.2 (And.intro (ho4.lower H3.out.2.2.1.size) (And.intro hcap ho4.len))))))))
  clear ho4 hb4 hb4' hcap H3
  go_wp2_with (fail)
  (with_reducible refine P1.out.mono ?_)
  clear P1
  rintro e W5 ⟨hp, hb5⟩
  rw [HM.out.1.parse, if_neg (by have := H4.out.2.2.2.1.g8; have := H4.out.2.2.2.1.ng; omega)] at hp
  obtain ⟨im, him⟩ : ∃ im, imL y.plus (peL y.stub) (y.bod.map fun z => z.2.2.2).length (hdL y.plus y.stub y.fill (y.bod.map fun z => z.2.2.2).length) (y.bod.map fun z => z.2.2.2) (ordL (y.bod.map fun z => z.2.2.2).length y.ord) t l (y.sig.map fun z => z.2.2.2) = im := ⟨_, rfl⟩
  rw [him] at hp
  obtain ⟨V, m, cV, U, k, cU, xs, rfl, hio⟩ := hp
  have H5 := Lib.hid (And.intro (has_below H4.out.1 hb5) (And.intro (H4.out.2.1.below hb5) (And.intro (kp_call H4.out.2.2.1 hb5) (And.intro hio.rd (H4.out.2.2.2.2.2.2.1.below hb5 (Nat.le_refl _))))))
  have HB := Lib.hid (And.intro H4.out.2.2.2.1 (And.intro H4.out.2.2.2.2.2.1 (And.intro H4.out.2.2.2.2.2.2.2.1 (And.intro H4.out.2.2.2.2.2.2.2.2 him))))
  have HK0 := Lib.hid (has_below H4.out.2.2.2.2.1 hb5)
  clear hio hb5 him H4
  go_upto_region 4 with (refine wpList_store_row rfl _ _ _ rfl W5.heap.size (imVal im V m cV U k cU) rfl rfl _ _ (has_new W5 _) (by kernel_rfl) rfl (by simp [imVal, Value.oneCell']) ?_)
  refine wp_nm fun W6 hW6 => ?_
  have k6 : W6.heap[W5.heap.size]? = some (.cells (imVal im V m cV U k cU) 28) := by rw [← hW6]; exact setRow_heap _ _ _ _ _ _ (has_new W5 _)
  have hb6 : Below W5.heap.size W5 W6 := by rw [← hW6]; exact below_setRow (kp_alloc (Below.refl _ _) _) (Nat.le_refl _) _
  have S6 := Lib.hid (show St16 w y W2.heap.size W5.heap.size A n c bs im V m cV U k cU xs W6 from ⟨has_below H5.out.1 hb6, k6, H5.out.2.2.2.2.below hb6 (Nat.le_refl _), H5.out.2.2.2.1.below hb6, H5.out.2.1.below hb6, kp_call H5.out.2.2.1 hb6⟩)
  have HK6 := Lib.hid (has_below HK0.out hb6)
  clear hW6 k6 hb6 H5 HK0
  have hm := HM.out.1.m
  have d1 : im.dir = peL y.stub + sizeL y.plus - 72 := by rw [← HB.out.2.2.2.2]; rfl
  have d2 : im.check = peL y.stub + 88 := by rw [← HB.out.2.2.2.2]; rfl
  have d3 : im.hdr = hdL y.plus y.stub y.fill (y.bod.map fun z => z.2.2.2).length := by rw [← HB.out.2.2.2.2]; rfl
  have d4 : im.table = t := by rw [← HB.out.2.2.2.2]; rfl
  have d5 : im.length = l := by rw [← HB.out.2.2.2.2]; rfl
  have d6 : im.sigs = y.sig.map fun z => z.2.2.2 := by rw [← HB.out.2.2.2.2]; rfl
  have m1 := hm.hp
  have m2 := hm.hh
  have m3 := hm.len
  have m4 := HM.out.1.big
  have m5 := sizeL_two y.plus
  have m6 := hm.hn
  have bl : bs.length = n := HB.out.2.2.2.1
  have nb : y.bn = (y.bod.map fun z => z.2.2.2).length := HB.out.1.nb
  have hpar : parseQ bs = .inr im := by
    have h9 := HM.out.1.parse
    rw [if_neg (by have := HB.out.1.g8; have := HB.out.1.ng; omega), HB.out.2.2.2.2] at h9
    exact h9
  have hmk : m ≤ 1000 ∧ k ≤ 1000 := by
    have h1 := S6.out.r.ml
    have h2 := S6.out.r.kl
    have h3 := congrArg List.length S6.out.r.bytes
    rw [List.length_map, d6] at h3
    have h4 : im.secs.length ≤ (y.bod.map fun z => z.2.2.2).length := by
      rw [← HB.out.2.2.2.2]
      simp only [imL, plcL, List.length_map]
      have := List.length_filter_le (fun i => decide (0 < ((y.bod.map fun z => z.2.2.2).getD i []).length)) (List.range (y.bod.map fun z => z.2.2.2).length)
      rw [List.length_range] at this
      simpa using this
    have h5 := HB.out.1.s1
    have h6 := HB.out.1.ng
    omega
  have hyb : 1 ≤ y.bn ∧ y.bn ≤ 20 := by have := HB.out.1.s1; omega
  obtain ⟨kk, hkk⟩ : ∃ kk, wn % y.bn = kk := ⟨_, rfl⟩
  have hkl : kk < y.bn := by rw [← hkk]; exact Nat.mod_lt _ (by omega)
  have e0 : IntKind.i64.wrap (wn : Int) = (wn : Int) := IntWalk.i64_in _ (by omega)
  have e1 : (wn : Int).tmod (y.bn : Int) = (kk : Int) := by rw [Int.tmod_eq_emod_of_nonneg (by omega)]; omega
  have e2 : IntKind.i64.wrap (kk : Int) = (kk : Int) := IntWalk.i64_in _ (by omega)
  have e3 : IntKind.i64.wrap (40 * (kk : Int)) = 40 * (kk : Int) := IntWalk.i64_in _ (by omega)
  have RT := Lib.hid (rows_tab im V m cV U k cU W6 (by omega) (by omega))
  obtain ⟨rt, hrt⟩ : ∃ rt, im.dir + 96 = rt := ⟨_, rfl⟩
  rw [hrt] at RT
  obtain ⟨at_, hat⟩ : ∃ at_, rt + 40 * kk = at_ := ⟨_, rfl⟩
  have e4 : IntKind.i64.wrap ((rt : Int) + 40 * (kk : Int)) = (at_ : Int) := by rw [IntWalk.i64_in _ (by omega)]; omega
  obtain ⟨au, hau⟩ : ∃ au, at_ + 20 = au := ⟨_, rfl⟩
  have e5 : IntKind.i64.wrap ((at_ : Int) + 20) = (au : Int) := by rw [IntWalk.i64_in _ (by omega)]; omega
  have e6 : IntKind.u64.wrap (hn : Int) = (hn : Int) := IntWalk.u64_in _ (by omega)
  have nz : ¬ (y.bn : Int) = 0 := by omega
  have au1 : au = peL y.stub + 24 + sizeL y.plus + 40 * kk + 20 := by omega
  have aul : au + 4 ≤ n ∧ n ≤ 100000 := by omega
  obtain ⟨b1, hb1⟩ : ∃ b1, putL bs au hn 4 = b1 := ⟨_, rfl⟩
  have hl1 : b1.length = bs.length := by rw [← hb1, putL_len _ _ _ _ (by omega)]
  have hag : ∀ i, (i < peL y.stub + 24 + sizeL y.plus + 40 * kk + 20 ∨ peL y.stub + 24 + sizeL y.plus + 40 * kk + 24 ≤ i) → b1[i]? = bs[i]? := by
    intro i hi
    rw [← hb1, put_other (by omega) (by omega)]
  have hq1 : numQ b1 au 4 = hn := by rw [← hb1, num_put4 (by omega) (by omega)]
  have hget : leN (cut bs au 4) = numQ bs au 4 := by unfold numQ; rw [if_pos (by omega)]
  obtain ⟨was, hwas⟩ : ∃ was, numQ bs au 4 = was := ⟨_, rfl⟩
  have hwl : was < 4294967296 := by rw [← hwas]; exact numQ_lt4 _ _
  obtain ⟨z, hz⟩ : ∃ z, y.bod[kk]? = some z := ⟨_, List.getElem?_eq_getElem (by have := S6.out.y.b.l; omega)⟩
  have hzd : (y.bod.map fun z => z.2.2.2).getD kk [] = z.2.2.2 := by rw [List.getD_eq_getElem?_getD, List.getElem?_map, hz]; rfl
  have hzl : z.2.2.2.length = z.2.1 := (S6.out.y.b.rb z (List.mem_of_getElem? hz)).1
  have P0 : z.2.1 = 0 → parseQ b1 = .inr im := fun h => by
    rw [HM.out.1.gap0 kk (by omega) (by rw [hzd, hzl, h]) b1 hl1 hag]; exact hpar
  have P1 : z.2.1 ≠ 0 → hn ≠ was → parseQ b1 = .inl 9 := fun h h2 => by
    refine HM.out.1.gap kk (by omega) (by rw [hzd, hzl]; omega) b1 hl1 hag ?_
    rw [← au1, hq1, hwas]
    exact h2
  have P2 : hn = was → parseQ b1 = .inr im := fun h => by
    rw [← hb1, put_same (by omega) (by rw [h]; exact hwas)]
    exact hpar
  have HP := Lib.hid (And.intro P0 (And.intro P1 P2))
  have HZ := Lib.hid hz
  have GET := Lib.hid (fun W (hb : RB W A n bs) => refGet_ok A n c bs au 4 W hb HB.out.2.2.1.1 (by have := HB.out.2.2.1.2; unfold maxLen at this; omega) rfl (by omega))
  rw [hget, hwas, show ((4 : Nat) : Int) = (4 : Int) from rfl] at GET
  have LD := Lib.hid (fun W (hb : RB W A n bs) => laid_any A n c bs (au : Nat) (hn : Nat) 4 au hn 4 W hb rfl rfl rfl (by omega) (by decide) (by omega) (by omega))
  rw [hb1] at LD
  have hxx := S6.out.x
  unfold Shp.cells at hxx
  obtain ⟨g0, g1, g2, g3, g4, g5, g6⟩ := cells_7 hxx
  clear hrt hxx hpar hm d1 d2 d3 d4 d5 d6 hkk hat hau au1 m1 m2 m3 m4 m5 m6 nb hb1 hl1 hag hq1 hget hwas hz hzd hzl P0 P1 P2 bl
  go_wp2_with (first
    | (refine wpList_load_rowG rfl _ _ rfl W5.heap.size rfl _ _ _ _ S6.out.i Tryd.underlying28 rfl (by kernel_rfl) ?_)
    | (go_at_call 22; (with_reducible refine RT.out.mono ?_); rintro e W7 ⟨rfl, hb7⟩; have S7 := Lib.hid (S6.out.below hb7); clear RT hb7 g0 g1 g2 g3 g4 g5 g6)
    | (go_at_call 23; (with_reducible refine (GET.out _ S7.out.o.rb).mono ?_); rintro e W8 ⟨rfl, hb8⟩; have S8 := Lib.hid (S7.out.below hb8); clear GET hb8)
    | (go_at_call 24; (with_reducible refine (LD.out _ S8.out.o.rb).mono ?_); rintro e W9 ⟨A9, n9, c9, rfl, ho9, hb9⟩; have S9 := Lib.hid (S8.out.below hb9); clear LD hb9))
  have hcp := ho9.row.cap
  have P := Lib.hid (parse_any A9 n9 c9 (b1) W9 ho9.rb (HS.out.below' S9.out.b) hcp.1 (by have := hcp.2; unfold maxLen at this; omega))
  have SO := Lib.hid ho9
  clear hcp ho9
  go_wp2_with (fail)
  (with_reducible refine P.out.mono ?_)
  clear P
  rintro e Wp hp
  obtain ⟨phv, ptv, plv, ppv, pcv, pdv, pV, pm, pcV, pU, pk, pcU, per, rfl, phb, po1, po2, po3, pcase⟩ := parse_abs hp
  clear hp
  have pC := Lib.hid pcase
  have pHB := Lib.hid phb
  clear pcase phb
  go_upto_region 11 with (refine wpList_store_row rfl _ _ _ rfl Wp.heap.size #[ppv, pcv, pdv, .int .u32 (phv : Nat), .slice pV pm pcV, .int .u32 (ptv : Nat), .int .u32 (plv : Nat), .slice pU pk pcU] rfl rfl _ _ (has_new Wp _) (by kernel_rfl) rfl (im_one po1 po2 po3 _ _ _ _ _ _ _ _ _) ?_)
  refine wp_nm fun W10 hWe => ?_
  have ke : W10.heap[Wp.heap.size]? = some (.cells #[ppv, pcv, pdv, .int .u32 (phv : Nat), .slice pV pm pcV, .int .u32 (ptv : Nat), .int .u32 (plv : Nat), .slice pU pk pcU] 28) := by rw [← hWe]; exact setRow_heap _ _ _ _ _ _ (has_new Wp _)
  have he1 : Below Wp.heap.size Wp W10 := by rw [← hWe]; exact below_setRow (kp_alloc (Below.refl _ _) _) (Nat.le_refl _) _
  have Sp := Lib.hid (S9.out.below (kp_call pHB.out he1))
  have Ep := Lib.hid (And.intro ke (And.intro he1 (kp_call pHB.out he1)))
  clear hWe ke he1
  obtain ⟨bk, bo, hA, hbw, ck⟩ := Sp.out.y.b.at_ HZ.out
  have hxx := Sp.out.x
  unfold Shp.cells at hxx
  rw [hA] at hxx
  obtain ⟨g0, g1, g2, g3, g4, g5, g6⟩ := cells_7 hxx
  unfold Own1.val at ck
  have i1 : (kk : Int) < (y.bn : Int) := by omega
  have i2 : (0 : Int) ≤ (kk : Int) := by omega
  clear hxx hA hbw
  by_cases hz0 : z.2.1 = 0
  · have t1 : ((z.2.1 : Int) == 0) = true := by rw [hz0]; rfl
    have hq : per = 0 ∧ ∃ pxs, ppv = .bool im.plus ∧ pcv = .int .i64 (im.check : Nat) ∧ pdv = .int .i64 (im.dir : Nat) ∧ im.hdr = phv ∧ im.table = ptv ∧ im.length = plv ∧ ImRd im pV pm pcV pU pk pcU pxs Wp := by
      rcases pC.out with ⟨h1, im', pxs, h2, h3, h4, h5, h6, h7, h8, h9⟩ | ⟨_, _, h2⟩
      · rw [HP.out.1 hz0] at h2
        injection h2 with h2
        subst h2
        exact ⟨h1, pxs, h7, h8, h9, h4, h5, h6, h3⟩
      · rw [HP.out.1 hz0] at h2; cases h2
    obtain ⟨hper, pxs, hq⟩ := hq
    subst hper
    clear hz0 HP pC
    obtain rfl : ppv = .bool im.plus := hq.1
    obtain rfl : pcv = .int .i64 (im.check : Nat) := hq.2.1
    obtain rfl : pdv = .int .i64 (im.dir : Nat) := hq.2.2.1
    obtain rfl : im.hdr = phv := hq.2.2.2.1
    obtain rfl : im.table = ptv := hq.2.2.2.2.1
    obtain rfl : im.length = plv := hq.2.2.2.2.2.1
    have hrd := hq.2.2.2.2.2.2
    have SM := Lib.hid (same_im im V m cV U k cU xs pV pm pcV pU pk pcU pxs W10 Sp.out.r (hrd.below Ep.out.2.1) hmk.1 hmk.2)
    have EI := Lib.hid (show W10.heap[Wp.heap.size]? = some (.cells (imVal im pV pm pcV pU pk pcU) 28) from Ep.out.1)
    clear hrd hq
    go_wp2_with (first
      | (refine wpList_load_rowG rfl _ _ rfl W5.heap.size rfl _ _ _ _ Sp.out.i Tryd.underlying28 rfl (by kernel_rfl) ?_)
      | (refine wpList_load_rowG rfl _ _ rfl Wp.heap.size rfl _ _ _ _ EI.out Tryd.underlying28 rfl (by kernel_rfl) ?_)
      | (go_at_call 14; (with_reducible refine SM.out.mono ?_); rintro e w8 ⟨rfl, hb8⟩; have HB8 := Lib.hid (kp_call Sp.out.b hb8); clear SM hb8)
      | (go_at_call 12; (with_reducible refine (works_any _ (HS.out.below' HB8.out)).mono ?_); rintro e w9 ⟨rfl, hb9⟩; have HB9 := Lib.hid (kp_call HB8.out hb9); clear hb9))
    go_ret
    exact ⟨rfl, HB9.out⟩
  · have t1 : ((z.2.1 : Int) == 0) = false := by simp; omega
    have b9 := Sp.out.b
    obtain ⟨bb, hbb1, hbb2⟩ : ∃ bb : Bool, ((per : Int) == 0) = bb ∧ ((hn : Int) == (was : Int)) = bb := by
      by_cases h : hn = was
      · refine ⟨true, ?_, by rw [h]; simp⟩
        rcases pC.out with ⟨h1, _⟩ | ⟨_, _, h2⟩
        · rw [h1]; rfl
        · rw [HP.out.2.2 h] at h2; cases h2
      · refine ⟨false, ?_, by simp; omega⟩
        rcases pC.out with ⟨_, im', _, h2, _⟩ | ⟨h1, _, _⟩
        · rw [HP.out.2.1 hz0 h] at h2; cases h2
        · simp; omega
    clear hz0 HP pC
    go_wp2_with (first
      | (go_at_call 12; (with_reducible refine (works_any _ (HS.out.below' b9)).mono ?_); rintro e w9 ⟨rfl, hb9⟩; have HB9 := Lib.hid (kp_call b9 hb9); clear hb9))
    go_ret
    exact ⟨rfl, HB9.out⟩
end Go.Proofs.YtjfpiidofbjdhaaDoor
