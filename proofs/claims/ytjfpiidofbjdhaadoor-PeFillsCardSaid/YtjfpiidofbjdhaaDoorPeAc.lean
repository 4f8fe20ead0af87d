/-
  pe: the statement on what fills a row up
-/
import Derived.Test.YtjfpiidofbjdhaaDoorPeY
import Derived.Test.YtjfpiidofbjdhaaDoorPeVb
namespace Go.Proofs.YtjfpiidofbjdhaaDoor
open Go.RowKit Go
set_option linter.unusedVariables false
set_option linter.unusedSimpArgs false
set_option maxRecDepth 100000
set_option maxHeartbeats 16000000 in
theorem fills_row (x : Shp) (av vv : Int) (w : World) (hx : IsShp w x) (hk : (Lit.int .u16 av).wf = true) (hh : (Lit.int .u8 vv).wf = true) (hT : Sizes w) :
    Calls Tryd.prog 10 #[x.val, .int .u16 av, .int .u8 vv] w fun e w' => e = .returned (.bool true) ∧ Below w.heap.size w w' := by
  unfold Shp.val
  replace hk := bounds_u16 hk
  replace hh := bounds_u8 hh
  obtain ⟨an, rfl⟩ : ∃ an : Nat, av = (an : Int) := ⟨av.toNat, by omega⟩
  obtain ⟨v, rfl⟩ : ∃ v : UInt8, vv = (v.toNat : Int) := ⟨UInt8.ofNat vv.toNat, by rw [UInt8.toNat_ofNat']; omega⟩
  have HX := Lib.hid hx
  have HS := Lib.hid hT
  clear hx hT
  go_enter Tryd.func10, Tryd.ntmps10
  go_upto_region 1 with (fail)
  refine wp_nm fun W0 hW0 => ?_
  have k0 : W0.heap[w.heap.size]? = some (.cells x.cells 39) := by rw [← hW0]; exact has_new w _
  have hb0 : Below w.heap.size w W0 := by rw [← hW0]; exact kp_alloc (Below.refl _ _) _
  have KX := Lib.hid (And.intro k0 hb0)
  have CB := Lib.hid (brought_any x W0 (HX.out.r.below hb0) HX.out.lc HX.out.cc HX.out.bc HX.out.gc HX.out.bn)
  clear hW0 k0 hb0
  go_wp2_with (refine wpList_load_row rfl _ _ rfl w.heap.size rfl _ _ _ _ KX.out.1 Tryd.underlying39 rfl (by kernel_rfl) ?_)
  (with_reducible refine CB.out.mono ?_)
  clear CB
  rintro e W2 ⟨y, rfl, hy, hb2, hpl, hst, hfi, hbe, hor, hbo, hsi, hgc⟩
  have hB := brd HX.out hy hst hfi hbe hor hbo hsi hgc
  have H2 := Lib.hid (And.intro hy (And.intro (kp_call KX.out.2 hb2) (And.intro hB (And.intro (has_below KX.out.1 hb2) hpl))))
  clear hy hb2 hpl hst hfi hbe hor hbo hsi hB hgc
  go_upto_region 2 with (refine wpList_store_row rfl _ _ _ rfl W2.heap.size y.cells rfl rfl _ _ (has_new W2 _) (by kernel_rfl) rfl (by simp [Shp.cells, Value.oneCell']) ?_)
  refine wp_nm fun W3 hW3 => ?_
  have k3 : W3.heap[W2.heap.size]? = some (.cells y.cells 39) := by rw [← hW3]; exact setRow_heap _ _ _ _ _ _ (has_new W2 _)
  have hb3 : Below W2.heap.size W2 W3 := by rw [← hW3]; exact below_setRow (kp_alloc (Below.refl _ _) _) (Nat.le_refl _) _
  have H3 := Lib.hid (And.intro k3 (And.intro (H2.out.1.below hb3) (And.intro (kp_call H2.out.2.1 hb3) (And.intro H2.out.2.2.1 (And.intro (has_below H2.out.2.2.2.1 hb3) H2.out.2.2.2.2)))))
  have HW2 := Lib.hid H2.out.2.1.size
  have HYB := Lib.hid (And.intro H2.out.1 hb3)
  have HKX := Lib.hid H2.out.2.2.2.1
  clear hW3 k3 hb3 KX H2
  have hxx := H3.out.1
  unfold Shp.cells at hxx
  have HX3 := Lib.hid hxx
  obtain ⟨g0, g1, g2, g3, g4, g5, g6⟩ := cells_7 hxx
  by_cases h0 : y.gn = 0
  · have t1 : ((y.gn : Int) == 0) = true := by rw [h0]; rfl
    have b9 := H3.out.2.2.1
    clear h0 hxx
    go_wp2_with (first
      | (go_at_call 12; (with_reducible refine (works_any _ (HS.out.below' b9)).mono ?_); rintro e w9 ⟨rfl, hb9⟩; have HB9 := Lib.hid (kp_call b9 hb9); clear hb9))
    go_ret
    exact ⟨rfl, HB9.out⟩
  have t1 : ((y.gn : Int) == 0) = false := by simp; omega
  have h1 : 1 ≤ y.gn := by omega
  have t2 : (1 : Int) ≤ (y.gc : Int) := by have := H3.out.2.2.2.1.gc; omega
  have t3 : 1 ≤ y.gc := by omega
  have f6 := Lib.frozen_of_heap hxx 6
  obtain ⟨z, hz⟩ : ∃ z, y.sig[0]? = some z := ⟨_, List.getElem?_eq_getElem (by have := H3.out.2.1.g.l; omega)⟩
  obtain ⟨gb, go, hgA, _, _⟩ := H3.out.2.1.g.at_ hz
  rw [hgA] at g6
  have HBX : Hid (w.heap.size < W2.heap.size) := by
    have h9 := block_lt (HKX.out)
    exact h9
  clear hxx h0
  go_upto_region 5 with (fail)
  refine wp_nm fun W3b hW3 => ?_
  have k3 : W3b.heap[W2.heap.size]? = some (.cells y.one.cells 39) := by
    rw [← hW3]
    have h9 := heap_set_at _ W2.heap.size 6 _ _ _ (.slice (some ⟨gb, go, none⟩) 1 y.gc) HX3.out
    simp only [List.setIfInBounds_toArray, List.set_cons_zero, List.set_cons_succ] at h9
    unfold Shp.cells Shp.one
    rw [hgA]
    exact h9
  have hb3 : Below w.heap.size w W3b := by rw [← hW3]; exact kp_set H3.out.2.2.1 HW2.out
  have hR3 : y.one.R W3b := by
    have hbb : Below W2.heap.size W2 W3b := by rw [← hW3]; exact HYB.out.2.setCell (Nat.le_refl _) _
    exact Shp.one_R (HYB.out.1.below hbb) h1
  have hk0 : W3b.heap[w.heap.size]? = some (.cells x.cells 39) := by
    rw [← hW3]
    exact has_set H3.out.2.2.2.2.1 (fun e => by rw [e] at HBX; exact absurd HBX.out (Nat.lt_irrefl _))
  have hsg : y.one.sig = [z] := by
    show y.sig.take 1 = [z]
    cases hh : y.sig with
    | nil => rw [hh] at hz; cases hz
    | cons a r => rw [hh] at hz; injection hz with hz; rw [hz]; rfl
  have H3b := Lib.hid (And.intro k3 (And.intro hR3 (And.intro hb3 (And.intro (H3.out.2.2.2.1.one h1) (And.intro hk0 (show y.one.plus = x.plus from H3.out.2.2.2.2.2))))))
  have HG1 : y.one.gn = 1 := rfl
  have HA1 : y.one.gA = some ⟨gb, go, none⟩ := hgA
  clear hW3 k3 hb3 hR3 hk0 H3 HX3 g0 g1 g2 g3 g4 g5 g6 f6 hz hgA h1 t1 t2 t3
  generalize y.one = y1 at H3b hsg HG1 HA1
  have HY1 := Lib.hid (And.intro hsg (And.intro HG1 HA1))
  clear hsg HG1 HA1 HYB
  have C := Lib.hid (writeD_any y1 W3b H3b.out.2.1 H3b.out.2.2.2.1.s1 H3b.out.2.2.2.1.s2 H3b.out.2.2.2.1.s3 H3b.out.2.2.2.1.s4)
  obtain ⟨t, l, hM, hlen⟩ := write_made y1.plus y1.stub y1.fill (y1.bod.map fun z => z.2.2.2) y1.ord y1.beh (y1.sig.map fun z => z.2.2.2) H3b.out.2.2.2.1.bd
  obtain ⟨bs, hbs⟩ : ∃ bs, writeL y1.plus y1.stub y1.fill (y1.bod.map fun z => z.2.2.2) y1.ord y1.beh (y1.sig.map fun z => z.2.2.2) = bs := ⟨_, rfl⟩
  rw [hbs] at C hM hlen
  have HM := Lib.hid (And.intro hM hlen)
  clear hM hlen hbs
  go_wp2_with (refine wpList_load_row rfl _ _ rfl W2.heap.size rfl _ _ _ _ H3b.out.1 Tryd.underlying39 rfl (by kernel_rfl) ?_)
  (with_reducible refine C.out.mono ?_)
  rintro e W4 ⟨A, n, c, rfl, ho4, hb4⟩
  clear C
  have hb4' := kp_call H3b.out.2.2.1 hb4
  have hcap := ho4.row.cap
  have P1 := Lib.hid (parse_any A n c bs W4 ho4.rb (HS.out.below' hb4') hcap.1 (by have := hcap.2; unfold maxLen at this; omega))
  have H4 := Lib.hid (And.intro (has_below H3b.out.1 hb4) (And.intro (H3b.out.2.1.below hb4) (And.intro hb4' (And.intro H3b.out.2.2.2.1 (And.intro (has_below H3b.out.2.2.2.2.1 hb4) (And.intro H3b.out.2.2.2.2.2 (And.intro (ho4.lower H3b.out.2.2.1.size) (And.intro hcap ho4.len))))))))
  clear ho4 hb4 hb4' hcap H3b
  go_wp2_with (fail)
  (with_reducible refine P1.out.mono ?_)
  clear P1
  rintro e W5 ⟨hp, hb5⟩
  rw [HM.out.1.parse, if_neg (by have := H4.out.2.2.2.1.g8; have := H4.out.2.2.2.1.ng; omega)] at hp
  obtain ⟨im, him⟩ : ∃ im, imL y1.plus (peL y1.stub) (y1.bod.map fun z => z.2.2.2).length (hdL y1.plus y1.stub y1.fill (y1.bod.map fun z => z.2.2.2).length) (y1.bod.map fun z => z.2.2.2) (ordL (y1.bod.map fun z => z.2.2.2).length y1.ord) t l (y1.sig.map fun z => z.2.2.2) = im := ⟨_, rfl⟩
  rw [him] at hp
  obtain ⟨V, m, cV, U, k, cU, xs, rfl, hio⟩ := hp
  have H5 := Lib.hid (And.intro (has_below H4.out.1 hb5) (And.intro (H4.out.2.1.below hb5) (And.intro (kp_call H4.out.2.2.1 hb5) (And.intro hio.rd (H4.out.2.2.2.2.2.2.1.below hb5 (Nat.le_refl _))))))
  have HB := Lib.hid (And.intro H4.out.2.2.2.1 (And.intro H4.out.2.2.2.2.2.1 (And.intro H4.out.2.2.2.2.2.2.2.1 (And.intro H4.out.2.2.2.2.2.2.2.2 him))))
  have HK0 := Lib.hid (has_below H4.out.2.2.2.2.1 hb5)
  clear hio hb5 him H4
  go_upto_region 7 with (refine wpList_store_row rfl _ _ _ rfl W5.heap.size (imVal im V m cV U k cU) rfl rfl _ _ (has_new W5 _) (by kernel_rfl) rfl (by simp [imVal, Value.oneCell']) ?_)
  refine wp_nm fun W6 hW6 => ?_
  have k6 : W6.heap[W5.heap.size]? = some (.cells (imVal im V m cV U k cU) 28) := by rw [← hW6]; exact setRow_heap _ _ _ _ _ _ (has_new W5 _)
  have hb6 : Below W5.heap.size W5 W6 := by rw [← hW6]; exact below_setRow (kp_alloc (Below.refl _ _) _) (Nat.le_refl _) _
  have S6 := Lib.hid (show St16 w y1 W2.heap.size W5.heap.size A n c bs im V m cV U k cU xs W6 from ⟨has_below H5.out.1 hb6, k6, H5.out.2.2.2.2.below hb6 (Nat.le_refl _), H5.out.2.2.2.1.below hb6, H5.out.2.1.below hb6, kp_call H5.out.2.2.1 hb6⟩)
  have HK6 := Lib.hid (has_below HK0.out hb6)
  clear hW6 k6 hb6 H5 HK0
  have hm := HM.out.1.m
  have d3 : im.hdr = hdL y1.plus y1.stub y1.fill (y1.bod.map fun z => z.2.2.2).length := by rw [← HB.out.2.2.2.2]; rfl
  have d4 : im.table = t := by rw [← HB.out.2.2.2.2]; rfl
  have d6 : im.sigs = y1.sig.map fun z => z.2.2.2 := by rw [← HB.out.2.2.2.2]; rfl
  have m4 := HM.out.1.big
  have bl : bs.length = n := HB.out.2.2.2.1
  have hs1 : (y1.sig.map fun z => z.2.2.2) = [z.2.2.2] := by rw [HY1.out.1]; rfl
  obtain ⟨r1, r2, r3, r4⟩ := HM.out.1.row1 z.2.2.2 hs1
  have hk1 : k = 1 := by
    have h2 := congrArg List.length S6.out.r.bytes
    rw [List.length_map, d6, hs1] at h2
    rw [S6.out.r.kl, h2]; rfl
  have hpar : parseQ bs = .inr im := by
    have h9 := HM.out.1.parse
    rw [if_neg (by have := HB.out.1.g8; have := HB.out.1.ng; omega), HB.out.2.2.2.2] at h9
    exact h9
  have hz2 : z.2.2.2.length = z.2.1 := (S6.out.y.g.rb z (by rw [HY1.out.1]; exact List.mem_cons_self)).1
  rw [hz2] at r1 r3 r4
  have KD := HM.out.1.kind z.2.2.2 hs1
  have FL := HM.out.1.fill z.2.2.2 hs1
  rw [hz2] at FL
  subst hk1
  subst d4
  obtain ⟨ja, hja⟩ : ∃ ja, an % 4 = ja := ⟨_, rfl⟩
  have hja4 : ja < 4 := by omega
  obtain ⟨kd, hkd⟩ : ∃ kd, im.table + 4 + ja = kd := ⟨_, rfl⟩
  obtain ⟨sn, hsn⟩ : ∃ sn, 8 + z.2.1 = sn := ⟨_, rfl⟩
  obtain ⟨q, hq⟩ : ∃ q, bs[kd]? = some q := ⟨_, List.getElem?_eq_getElem (by omega)⟩
  have K1 : v = q → bs.set kd v = bs := fun h => set_same (by rw [h]; exact hq)
  have K2 : v ≠ q → parseQ (bs.set kd v) = .inl 9 := fun h => by
    rw [← hkd]
    exact KD ja hja4 v q (by rw [hkd]; exact hq) h
  have e1 : IntKind.i64.wrap (im.table : Int) = (im.table : Int) := IntWalk.i64_in _ (by omega)
  have e2 : IntKind.i64.wrap (8 + (z.2.1 : Int)) = (sn : Int) := by rw [IntWalk.i64_in _ (by omega)]; omega
  have e3 : IntKind.i64.wrap ((im.table : Int) + 4) = (im.table : Int) + 4 := IntWalk.i64_in _ (by omega)
  have e4 : (an : Int).tmod 4 = (ja : Int) := by rw [Int.tmod_eq_emod_of_nonneg (by omega)]; omega
  have e5 : IntKind.i64.wrap (an : Int) = (an : Int) := IntWalk.i64_in _ (by omega)
  have e6 : IntKind.i64.wrap (ja : Int) = (ja : Int) := IntWalk.i64_in _ (by omega)
  have e7 : IntKind.i64.wrap ((im.table : Int) + 4 + (ja : Int)) = (kd : Int) := by rw [IntWalk.i64_in _ (by omega)]; omega
  have i1 : (kd : Int) < (n : Int) := by omega
  have i2 : kd < n := by omega
  obtain ⟨ra, hra⟩ : ∃ ra, sn % 8 = ra := ⟨_, rfl⟩
  have e8 : (sn : Int).tmod 8 = (ra : Int) := by rw [Int.tmod_eq_emod_of_nonneg (by omega)]; omega
  have e9 : IntKind.i64.wrap (ra : Int) = (ra : Int) := IntWalk.i64_in _ (by omega)
  have hra8 : ra < 8 := by omega
  obtain ⟨rb, hrb⟩ : ∃ rb, 8 - ra = rb := ⟨_, rfl⟩
  have e10 : IntKind.i64.wrap (8 - (ra : Int)) = (rb : Int) := by rw [IntWalk.i64_in _ (by omega)]; omega
  obtain ⟨jb, hjb⟩ : ∃ jb, an % rb = jb := ⟨_, rfl⟩
  have hjbl : jb < rb := by rw [← hjb]; exact Nat.mod_lt _ (by omega)
  have e11 : (an : Int).tmod (rb : Int) = (jb : Int) := by rw [Int.tmod_eq_emod_of_nonneg (by omega)]; omega
  have e12 : IntKind.i64.wrap (jb : Int) = (jb : Int) := IntWalk.i64_in _ (by omega)
  have nz : ¬ (rb : Int) = 0 := by omega
  obtain ⟨pn, hpn⟩ : ∃ pn, im.table + sn = pn := ⟨_, rfl⟩
  have e13 : IntKind.i64.wrap ((im.table : Int) + (sn : Int)) = (pn : Int) := by rw [IntWalk.i64_in _ (by omega)]; omega
  obtain ⟨po, hpo⟩ : ∃ po, pn + jb = po := ⟨_, rfl⟩
  have e14 : IntKind.i64.wrap ((pn : Int) + (jb : Int)) = (po : Int) := by rw [IntWalk.i64_in _ (by omega)]; omega
  have F0 : ra ≠ 0 → po < n ∧ bs[po]? = some 0 ∧ (v = 0 → bs.set po v = bs) ∧ (v ≠ 0 → parseQ (bs.set po v) = .inl 9) := fun h => by
    obtain ⟨f1, f2⟩ := FL jb (by omega) (by omega)
    rw [hsn, hpn, hpo] at f1 f2
    have hlt : po < n := by
      rcases Nat.lt_or_ge po n with h8 | h8
      · exact h8
      · rw [List.getElem?_eq_none (by omega)] at f1; cases f1
    exact ⟨hlt, f1, fun hv => set_same (by rw [hv]; exact f1), f2 v⟩
  have HP := Lib.hid (And.intro hpar (And.intro K1 (And.intro K2 F0)))
  have HQ := Lib.hid hq
  have HPR := Lib.hid hpar
  have hn5 : n ≤ 100000 := by omega
  have CP := Lib.hid (fun W (h : RB W A n bs) => copy_any A n c bs W h (by omega))
  have hxx := S6.out.x
  unfold Shp.cells at hxx
  rw [HY1.out.2.1, HY1.out.2.2] at hxx
  obtain ⟨g0, g1, g2, g3, g4, g5, g6⟩ := cells_7 hxx
  obtain ⟨gb', go', hgA', _, ck⟩ := S6.out.y.g.at_ (show y1.sig[0]? = some z by rw [HY1.out.1]; rfl)
  rw [HY1.out.2.2] at hgA'
  obtain ⟨rfl, rfl⟩ : gb' = gb ∧ go' = go := by injection hgA' with e; injection e with e1 e2; exact ⟨e1.symm, e2.symm⟩
  have ck0 : W6.cell? ⟨gb', go', none⟩ = some (.slice z.1 z.2.1 z.2.2.1) := ck
  obtain ⟨z0, z1, z2, z3, z4, z5, z6, z7⟩ := cells_8 S6.out.i
  clear hxx hgA' ck hm d3 d6 m4 bl hs1 r1 r2 r3 r4 hpar hz2 KD FL hja hkd hsn hq K1 K2 hra hrb hjb hpn hpo F0
  go_upto_region 12 with (first
    | (go_at_call 25; (with_reducible refine (CP.out _ S6.out.o.rb).mono ?_); rintro e W7 ⟨A7, n7, c7, rfl, ho7, hb7⟩; have S7 := Lib.hid (S6.out.below hb7); have O7 := Lib.hid ho7; have B7 := Lib.hid hb7; clear hb7 ho7))
  obtain rfl : n = n7 := by have h1 := O7.out.len; have h2 := S7.out.o.len; omega
  obtain ⟨g7, hA7, hg7, _⟩ := O7.out.shape (by have := O7.out.cap.1; omega)
  subst hA7
  have hg76 : W6.heap.size ≤ g7 := hg7
  have ST7 : Hid (St16 w y1 W2.heap.size W5.heap.size A n c bs im V m cV U 1 cU xs (W7.setCell ⟨g7, kd, none⟩ (.int .u8 (v.toNat : Int))) ∧ OwnB (W7.setCell ⟨g7, kd, none⟩ (.int .u8 (v.toNat : Int))) W6.heap.size (some ⟨g7, 0, none⟩) n c7 (bs.set kd v)) :=
    ⟨S6.out.below (kp_set (kp_call (Below.refl _ _) B7.out) hg76), O7.out.stored kd v⟩
  have j1 := O7.out.cellAt kd q HQ.out
  have j2 := O7.out.free kd
  clear hg7 hg76 O7 S7 z0 z1 z2 z3 z4 z5 z6 z7 g0 g1 g2 g3 g4 g5 g6
  go_upto_region 14 with (fail)
  refine wp_nm fun W8 hW8 => ?_
  have S8 : Hid (St16 w y1 W2.heap.size W5.heap.size A n c bs im V m cV U 1 cU xs W8) := by rw [← hW8]; exact ST7.out.1
  have ho8 : OwnB W8 W6.heap.size (some ⟨g7, 0, none⟩) n c7 (bs.set kd v) := by rw [← hW8]; exact ST7.out.2
  clear hW8 ST7 j1 j2
  have hcp := ho8.row.cap
  have P := Lib.hid (parse_any (some ⟨g7, 0, none⟩) n c7 (bs.set kd v) W8 ho8.rb (HS.out.below' S8.out.b) hcp.1 (by have := hcp.2; unfold maxLen at this; omega))
  have SO := Lib.hid ho8
  clear hcp ho8
  go_wp2_with (fail)
  (with_reducible refine P.out.mono ?_)
  clear P
  rintro e Wp hp
  obtain ⟨phv, ptv, plv, ppv, pcv, pdv, pV, pm, pcV, pU, pk, pcU, per, rfl, phb, po1, po2, po3, pcase⟩ := parse_abs hp
  clear hp
  have pC := Lib.hid pcase
  have pHB := Lib.hid phb
  clear pcase phb
  go_upto_region 15 with (refine wpList_store_row rfl _ _ _ rfl Wp.heap.size #[ppv, pcv, pdv, .int .u32 (phv : Nat), .slice pV pm pcV, .int .u32 (ptv : Nat), .int .u32 (plv : Nat), .slice pU pk pcU] rfl rfl _ _ (has_new Wp _) (by kernel_rfl) rfl (im_one po1 po2 po3 _ _ _ _ _ _ _ _ _) ?_)
  refine wp_nm fun W9 hWe => ?_
  have ke : W9.heap[Wp.heap.size]? = some (.cells #[ppv, pcv, pdv, .int .u32 (phv : Nat), .slice pV pm pcV, .int .u32 (ptv : Nat), .int .u32 (plv : Nat), .slice pU pk pcU] 28) := by rw [← hWe]; exact setRow_heap _ _ _ _ _ _ (has_new Wp _)
  have he1 : Below Wp.heap.size Wp W9 := by rw [← hWe]; exact below_setRow (kp_alloc (Below.refl _ _) _) (Nat.le_refl _) _
  have Sp := Lib.hid (S8.out.below (kp_call pHB.out he1))
  have Ep := Lib.hid (And.intro ke (And.intro he1 (kp_call pHB.out he1)))
  clear hWe ke he1
  obtain ⟨bk, bo, q', hA, _, hq', jc⟩ := Sp.out.o.rb.at_ (k := kd) (by omega)
  obtain rfl : q' = q := by have h9 := HQ.out; rw [hq'] at h9; exact Option.some.inj h9
  subst hA
  clear hq'
  have b9 := Sp.out.b
  obtain ⟨bb, hbb1, hbb2⟩ : ∃ bb : Bool, ((per : Int) == 0) = bb ∧ ((v.toNat : Int) == (q'.toNat : Int)) = bb := by
    by_cases h : v = q'
    · refine ⟨true, ?_, by rw [h]; simp⟩
      rcases pC.out with ⟨h1, _⟩ | ⟨_, _, h2⟩
      · rw [h1]; rfl
      · rw [HP.out.2.1 h, HP.out.1] at h2; cases h2
    · refine ⟨false, ?_, by
        have : v.toNat ≠ q'.toNat := fun e => h (UInt8.toNat_inj.1 e)
        simp; omega⟩
      rcases pC.out with ⟨_, im', _, h2, _⟩ | ⟨h1, _, _⟩
      · rw [HP.out.2.2.1 h] at h2; cases h2
      · simp; omega
  by_cases hr0 : ra = 0
  · have t1 : ((ra : Int) == 0) = true := by rw [hr0]; rfl
    clear hr0 HP pC
    go_wp2_with (first
      | (go_at_call 12; (with_reducible refine (works_any _ (HS.out.below' b9)).mono ?_); rintro e w9 ⟨rfl, hb9⟩; have HB9 := Lib.hid (kp_call b9 hb9); clear hb9))
    go_ret
    exact ⟨rfl, HB9.out⟩
  have t1 : ((ra : Int) == 0) = false := by simp; omega
  obtain ⟨f1, f2, f3, f4⟩ := HP.out.2.2.2 hr0
  have HF := Lib.hid (And.intro f2 (And.intro f3 f4))
  have i3 : (po : Int) < (n : Int) := by omega
  clear hr0 HP pC f2 f3 f4 b9
  go_upto_region 20 with (first
    | (go_at_call 25; (with_reducible refine (CP.out _ Sp.out.o.rb).mono ?_); rintro e W10 ⟨A10, n10, c10, rfl, ho10, hb10⟩; have S10 := Lib.hid (Sp.out.below hb10); have O10 := Lib.hid ho10; have B10 := Lib.hid hb10; clear hb10 ho10))
  obtain rfl : n = n10 := by have h1 := O10.out.len; have h2 := S10.out.o.len; omega
  obtain ⟨g10, hA10, hg10, _⟩ := O10.out.shape (by have := O10.out.cap.1; omega)
  subst hA10
  have hg109 : W9.heap.size ≤ g10 := hg10
  have ST10 : Hid (St16 w y1 W2.heap.size W5.heap.size (some ⟨bk, bo, none⟩) n c bs im V m cV U 1 cU xs (W10.setCell ⟨g10, po, none⟩ (.int .u8 (v.toNat : Int))) ∧ OwnB (W10.setCell ⟨g10, po, none⟩ (.int .u8 (v.toNat : Int))) W9.heap.size (some ⟨g10, 0, none⟩) n c10 (bs.set po v)) :=
    ⟨Sp.out.below (kp_set (kp_call (Below.refl _ _) B10.out) hg109), O10.out.stored po v⟩
  have j1 := O10.out.cellAt po 0 HF.out.1
  have j2 := O10.out.free po
  clear hg10 hg109 O10 S10 jc
  go_upto_region 21 with (fail)
  refine wp_nm fun W11 hW11 => ?_
  have S11 : Hid (St16 w y1 W2.heap.size W5.heap.size (some ⟨bk, bo, none⟩) n c bs im V m cV U 1 cU xs W11) := by rw [← hW11]; exact ST10.out.1
  have ho11 : OwnB W11 W9.heap.size (some ⟨g10, 0, none⟩) n c10 (bs.set po v) := by rw [← hW11]; exact ST10.out.2
  clear hW11 ST10 j1 j2
  have hcp := ho11.row.cap
  have P := Lib.hid (parse_any (some ⟨g10, 0, none⟩) n c10 (bs.set po v) W11 ho11.rb (HS.out.below' S11.out.b) hcp.1 (by have := hcp.2; unfold maxLen at this; omega))
  have SO := Lib.hid ho11
  clear hcp ho11
  go_wp2_with (fail)
  (with_reducible refine P.out.mono ?_)
  clear P
  rintro e Wq hp
  obtain ⟨qhv, qtv, qlv, qpv, qcv, qdv, qV, qm, qcV, qU, qk, qcU, qer, rfl, qhb, qo1, qo2, qo3, qcase⟩ := parse_abs hp
  clear hp
  have qC := Lib.hid qcase
  have qHB := Lib.hid qhb
  clear qcase qhb
  go_upto_region 22 with (refine wpList_store_row rfl _ _ _ rfl Wq.heap.size #[qpv, qcv, qdv, .int .u32 (qhv : Nat), .slice qV qm qcV, .int .u32 (qtv : Nat), .int .u32 (qlv : Nat), .slice qU qk qcU] rfl rfl _ _ (has_new Wq _) (by kernel_rfl) rfl (im_one qo1 qo2 qo3 _ _ _ _ _ _ _ _ _) ?_)
  refine wp_nm fun W12 hWe => ?_
  have ke : W12.heap[Wq.heap.size]? = some (.cells #[qpv, qcv, qdv, .int .u32 (qhv : Nat), .slice qV qm qcV, .int .u32 (qtv : Nat), .int .u32 (qlv : Nat), .slice qU qk qcU] 28) := by rw [← hWe]; exact setRow_heap _ _ _ _ _ _ (has_new Wq _)
  have he1 : Below Wq.heap.size Wq W12 := by rw [← hWe]; exact below_setRow (kp_alloc (Below.refl _ _) _) (Nat.le_refl _) _
  have Sq := Lib.hid (S11.out.below (kp_call qHB.out he1))
  have Eq := Lib.hid (And.intro ke (And.intro he1 (kp_call qHB.out he1)))
  clear hWe ke he1
  have b9 := Sq.out.b
  obtain ⟨bc, hbc1, hbc2⟩ : ∃ bc : Bool, ((qer : Int) == 0) = bc ∧ ((v.toNat : Int) == 0) = bc := by
    by_cases h : v = 0
    · refine ⟨true, ?_, by rw [h]; rfl⟩
      rcases qC.out with ⟨h1, _⟩ | ⟨_, _, h2⟩
      · rw [h1]; rfl
      · rw [HF.out.2.1 h, HPR.out] at h2; cases h2
    · refine ⟨false, ?_, by
        have : v.toNat ≠ 0 := fun e => h (UInt8.toNat_inj.1 e)
        simp; omega⟩
      rcases qC.out with ⟨_, im', _, h2, _⟩ | ⟨h1, _, _⟩
      · rw [HF.out.2.2 h] at h2; cases h2
      · simp; omega
  clear qC
  go_wp2_with (first
    | (go_at_call 12; (with_reducible refine (works_any _ (HS.out.below' b9)).mono ?_); rintro e w9 ⟨rfl, hb9⟩; have HB9 := Lib.hid (kp_call b9 hb9); clear hb9))
  go_ret
  exact ⟨rfl, HB9.out⟩
end Go.Proofs.YtjfpiidofbjdhaaDoor
