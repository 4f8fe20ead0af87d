/-
  pe: the theorem on images that are made
-/
import Derived.Test.YtjfpiidofbjdhaaDoorPeY
import Derived.Test.YtjfpiidofbjdhaaDoorPeVc
namespace Go.Proofs.YtjfpiidofbjdhaaDoor
open Go.RowKit Go
set_option linter.unusedVariables false
set_option linter.unusedSimpArgs false
set_option maxRecDepth 100000
set_option maxHeartbeats 16000000 in
theorem back_big (x : Shp) (cv : Int) (mA : Option Addr) (mn mc : Nat) (w : World) (hT : Sizes w) (hn : 100 < mn) :
    Calls Tryd.prog 4 #[x.val, .int .i64 cv, .slice mA mn mc] w fun e w' => e = .returned (.bool true) ∧ Below w.heap.size w w' := by
  unfold Shp.val
  have t1 : decide ((100 : Int) < (mn : Int)) = true := by simp; omega
  have t2 : 100 < mn := hn
  have hb : ∀ o : Obj, Below w.heap.size w (w.alloc o) := fun o => kp_alloc (Below.refl _ _) o
  have HW := Lib.hid (fun o : Obj => And.intro (hb o) (works_any (w.alloc o) (hT.below' (hb o))))
  clear hT hb
  go_enter Tryd.func4, Tryd.ntmps4
  go_wp2_with (fail)
  (with_reducible refine (HW.out _).2.mono ?_)
  rintro e w9 ⟨rfl, hb9⟩
  have HB9 := Lib.hid (kp_call (HW.out _).1 hb9)
  clear hb9
  go_wp2_with (fail)
  go_ret
  exact ⟨rfl, HB9.out⟩
set_option maxHeartbeats 16000000 in
theorem back_row (x : Shp) (cv : Int) (mA : Option Addr) (mn mc : Nat) (mb : List UInt8) (w : World) (hx : IsShp w x) (hk : (Lit.int .i64 cv).wf = true) (hmo : IsBs w mA mn mc mb) (hT : Sizes w) :
    Calls Tryd.prog 4 #[x.val, .int .i64 cv, .slice mA mn mc] w fun e w' => e = .returned (.bool true) ∧ Below w.heap.size w w' := by
  by_cases hmn : 100 < mn
  · exact back_big x cv mA mn mc w hT hmn
  unfold Shp.val
  replace hk := bounds_i64 hk
  have t0 : decide ((100 : Int) < (mn : Int)) = false := by simp; omega
  have t0n : ¬ 100 < mn := hmn
  have HMO := Lib.hid hmo
  clear hmo hmn
  have HX := Lib.hid hx
  have HS := Lib.hid hT
  clear hx hT
  go_enter Tryd.func4, Tryd.ntmps4
  go_upto_region 1 with (fail)
  refine wp_nm fun W0 hW0 => ?_
  have k0 : W0.heap[w.heap.size]? = some (.cells x.cells 39) := by rw [← hW0]; exact has_new w _
  have hb0 : Below w.heap.size w W0 := by rw [← hW0]; exact kp_alloc (Below.refl _ _) _
  have KX := Lib.hid (And.intro k0 hb0)
  have CB := Lib.hid (brought_any x W0 (HX.out.r.below hb0) HX.out.lc HX.out.cc HX.out.bc HX.out.gc HX.out.bn)
  clear hW0 k0 hb0
  go_wp2_with (refine wpList_load_row rfl _ _ rfl w.heap.size rfl _ _ _ _ KX.out.1 Tryd.underlying39 rfl (by kernel_rfl) ?_)
  (with_reducible refine CB.out.mono ?_)
  clear CB
  rintro e W2 ⟨y, rfl, hy, hb2, hpl, hst, hfi, hbe, hor, hbo, hsi, hgc⟩
  have hB := brd HX.out hy hst hfi hbe hor hbo hsi hgc
  have H2 := Lib.hid (And.intro hy (And.intro (kp_call KX.out.2 hb2) (And.intro hB (And.intro (has_below KX.out.1 hb2) hpl))))
  clear hy hb2 hpl hst hfi hbe hor hbo hsi hB hgc
  go_upto_region 4 with (refine wpList_store_row rfl _ _ _ rfl W2.heap.size y.cells rfl rfl _ _ (has_new W2 _) (by kernel_rfl) rfl (by simp [Shp.cells, Value.oneCell']) ?_)
  refine wp_nm fun W3 hW3 => ?_
  have k3 : W3.heap[W2.heap.size]? = some (.cells y.cells 39) := by rw [← hW3]; exact setRow_heap _ _ _ _ _ _ (has_new W2 _)
  have hb3 : Below W2.heap.size W2 W3 := by rw [← hW3]; exact below_setRow (kp_alloc (Below.refl _ _) _) (Nat.le_refl _) _
  have H3 := Lib.hid (And.intro k3 (And.intro (H2.out.1.below hb3) (And.intro (kp_call H2.out.2.1 hb3) (And.intro H2.out.2.2.1 (And.intro (has_below H2.out.2.2.2.1 hb3) H2.out.2.2.2.2)))))
  have HW2 := Lib.hid H2.out.2.1.size
  have HYB := Lib.hid (And.intro H2.out.1 hb3)
  have HKX := Lib.hid H2.out.2.2.2.1
  clear hW3 k3 hb3 KX H2
  have C := Lib.hid (writeD_any y W3 H3.out.2.1 H3.out.2.2.2.1.s1 H3.out.2.2.2.1.s2 H3.out.2.2.2.1.s3 H3.out.2.2.2.1.s4)
  obtain ⟨t, l, hM, hlen⟩ := write_made y.plus y.stub y.fill (y.bod.map fun z => z.2.2.2) y.ord y.beh (y.sig.map fun z => z.2.2.2) H3.out.2.2.2.1.bd
  obtain ⟨bs, hbs⟩ : ∃ bs, writeL y.plus y.stub y.fill (y.bod.map fun z => z.2.2.2) y.ord y.beh (y.sig.map fun z => z.2.2.2) = bs := ⟨_, rfl⟩
  rw [hbs] at C hM hlen
  have HM := Lib.hid (And.intro hM hlen)
  clear hM hlen hbs
  go_wp2_with (refine wpList_load_row rfl _ _ rfl W2.heap.size rfl _ _ _ _ H3.out.1 Tryd.underlying39 rfl (by kernel_rfl) ?_)
  (with_reducible refine C.out.mono ?_)
  rintro e W4 ⟨A, n, c, rfl, ho4, hb4⟩
  clear C
  have hb4' := kp_call H3.out.2.2.1 hb4
  have hcap := ho4.row.cap
  have P1 := Lib.hid (parse_any A n c bs W4 ho4.rb (HS.out.below' hb4') hcap.1 (by have := hcap.2; unfold maxLen at this; omega))
  have H4 := Lib.hid (And.intro (has_below H3.out.1 hb4) (And.intro (H3.out.2.1.below hb4) (And.intro hb4' (And.intro H3.out.2.2.2.1 (And.intro (has_below H3.out.2.2.2.2.1 hb4) (And.intro H3.out.2.2.2.2.2 (And.intro (ho4.lower H3.out.2.2.1.size) (And.intro hcap ho4.len))))))))
  clear ho4 hb4 hb4' hcap H3
  go_wp2_with (fail)
  (with_reducible refine P1.out.mono ?_)
  clear P1
  rintro e W5 ⟨hp, hb5⟩
  rw [HM.out.1.parse, if_neg (by have := H4.out.2.2.2.1.g8; have := H4.out.2.2.2.1.ng; omega)] at hp
  obtain ⟨im, him⟩ : ∃ im, imL y.plus (peL y.stub) (y.bod.map fun z => z.2.2.2).length (hdL y.plus y.stub y.fill (y.bod.map fun z => z.2.2.2).length) (y.bod.map fun z => z.2.2.2) (ordL (y.bod.map fun z => z.2.2.2).length y.ord) t l (y.sig.map fun z => z.2.2.2) = im := ⟨_, rfl⟩
  rw [him] at hp
  obtain ⟨V, m, cV, U, k, cU, xs, rfl, hio⟩ := hp
  have H5 := Lib.hid (And.intro (has_below H4.out.1 hb5) (And.intro (H4.out.2.1.below hb5) (And.intro (kp_call H4.out.2.2.1 hb5) (And.intro hio.rd (H4.out.2.2.2.2.2.2.1.below hb5 (Nat.le_refl _))))))
  have HB := Lib.hid (And.intro H4.out.2.2.2.1 (And.intro H4.out.2.2.2.2.2.1 (And.intro H4.out.2.2.2.2.2.2.2.1 (And.intro H4.out.2.2.2.2.2.2.2.2 him))))
  have HK0 := Lib.hid (has_below H4.out.2.2.2.2.1 hb5)
  clear hio hb5 him H4
  go_upto_region 6 with (refine wpList_store_row rfl _ _ _ rfl W5.heap.size (imVal im V m cV U k cU) rfl rfl _ _ (has_new W5 _) (by kernel_rfl) rfl (by simp [imVal, Value.oneCell']) ?_)
  refine wp_nm fun W6 hW6 => ?_
  have k6 : W6.heap[W5.heap.size]? = some (.cells (imVal im V m cV U k cU) 28) := by rw [← hW6]; exact setRow_heap _ _ _ _ _ _ (has_new W5 _)
  have hb6 : Below W5.heap.size W5 W6 := by rw [← hW6]; exact below_setRow (kp_alloc (Below.refl _ _) _) (Nat.le_refl _) _
  have S6 := Lib.hid (show St16 w y W2.heap.size W5.heap.size A n c bs im V m cV U k cU xs W6 from ⟨has_below H5.out.1 hb6, k6, H5.out.2.2.2.2.below hb6 (Nat.le_refl _), H5.out.2.2.2.1.below hb6, H5.out.2.1.below hb6, kp_call H5.out.2.2.1 hb6⟩)
  have HK6 := Lib.hid (has_below HK0.out hb6)
  clear hW6 k6 hb6 H5 HK0
  have hm := HM.out.1.m
  have d1 : im.dir = peL y.stub + sizeL y.plus - 72 := by rw [← HB.out.2.2.2.2]; rfl
  have d2 : im.check = peL y.stub + 88 := by rw [← HB.out.2.2.2.2]; rfl
  have d3 : im.hdr = hdL y.plus y.stub y.fill (y.bod.map fun z => z.2.2.2).length := by rw [← HB.out.2.2.2.2]; rfl
  have d4 : im.table = t := by rw [← HB.out.2.2.2.2]; rfl
  have d5 : im.length = l := by rw [← HB.out.2.2.2.2]; rfl
  have d6 : im.sigs = y.sig.map fun z => z.2.2.2 := by rw [← HB.out.2.2.2.2]; rfl
  have m1 := hm.hp
  have m2 := hm.hh
  have m3 := hm.len
  have m4 := HM.out.1.big
  have m5 := sizeL_two y.plus
  have m6 := hm.hn
  have bl : bs.length = n := HB.out.2.2.2.1
  have nb : y.bn = (y.bod.map fun z => z.2.2.2).length := HB.out.1.nb
  have hpar : parseQ bs = .inr im := by
    have h9 := HM.out.1.parse
    rw [if_neg (by have := HB.out.1.g8; have := HB.out.1.ng; omega), HB.out.2.2.2.2] at h9
    exact h9
  have hmk : m ≤ 1000 ∧ k ≤ 1000 := by
    have h1 := S6.out.r.ml
    have h2 := S6.out.r.kl
    have h3 := congrArg List.length S6.out.r.bytes
    rw [List.length_map, d6] at h3
    have h4 : im.secs.length ≤ (y.bod.map fun z => z.2.2.2).length := by
      rw [← HB.out.2.2.2.2]
      simp only [imL, plcL, List.length_map]
      have := List.length_filter_le (fun i => decide (0 < ((y.bod.map fun z => z.2.2.2).getD i []).length)) (List.range (y.bod.map fun z => z.2.2.2).length)
      rw [List.length_range] at this
      simpa using this
    have h5 := HB.out.1.s1
    have h6 := HB.out.1.ng
    omega
  have d0 : im.plus = y.plus := by rw [← HB.out.2.2.2.2]; rfl
  have dse : im.secs = plcL (y.bod.map fun z => z.2.2.2) (ordL (y.bod.map fun z => z.2.2.2).length y.ord) (hdL y.plus y.stub y.fill (y.bod.map fun z => z.2.2.2).length) (List.range (y.bod.map fun z => z.2.2.2).length) := by rw [← HB.out.2.2.2.2]; rfl
  obtain ⟨ga, hga, hga2, _⟩ := S6.out.o.shape (by have := HB.out.2.2.1.1; omega)
  subst hga
  have hk1 : k = y.gn := by
    have h2 := congrArg List.length S6.out.r.bytes
    rw [List.length_map, d6] at h2
    rw [S6.out.r.kl, h2]; exact HB.out.1.ng.symm
  subst hk1
  have u0 : (im.plus != y.plus) = false := by rw [d0]; simp
  obtain ⟨bods, hbods⟩ : ∃ bods, (y.bod.map fun z => z.2.2.2) = bods := ⟨_, rfl⟩
  obtain ⟨H, hH⟩ : ∃ H, hdL y.plus y.stub y.fill (y.bod.map fun z => z.2.2.2).length = H := ⟨_, rfl⟩
  rw [hH, hbods] at dse
  obtain ⟨ks, hks⟩ : ∃ ks, ordL bods.length y.ord = ks := ⟨_, rfl⟩
  rw [hks] at dse
  have mbody := HM.out.1.body
  have mlen := HM.out.1.m.len
  have mperm := HM.out.1.m.perm
  rw [hH, hbods, hks] at mbody mlen
  rw [hbods, hks] at mperm
  rw [hbods] at nb
  have SEC : m = fullN bods y.bn := by rw [S6.out.r.ml, dse, plc_len, nb]
  have hybn : y.bn ≤ 20 := HB.out.1.s1.2.2.2.1
  have hcap := HB.out.2.2.1
  unfold maxLen at hcap
  -- what the round of a body with bytes wants
  have BODY : ∀ i z, y.bod[i]? = some z → i < y.bn ∧ z.2.1 = (bods.getD i []).length ∧ z.2.1 ≤ 1000 ∧ (0 < z.2.1 → fullN bods i < m ∧ im.secs[fullN bods i]? = some (offL bods ks H i, z.2.1) ∧ offL bods ks H i + z.2.1 ≤ n ∧ cut bs (offL bods ks H i) z.2.1 = z.2.2.2) := by
    intro i z hz
    have hil : i < y.bn := by
      rcases Nat.lt_or_ge i y.bn with h | h
      · exact h
      · rw [List.getElem?_eq_none (by rw [S6.out.y.b.l]; exact h)] at hz; cases hz
    have hg : bods.getD i [] = z.2.2.2 := by rw [← hbods, List.getD_eq_getElem?_getD, List.getElem?_map, hz]; rfl
    have hzl : z.2.2.2.length = z.2.1 := (S6.out.y.b.rb z (List.mem_of_getElem? hz)).1
    have hz3 := HB.out.1.s2 z (List.mem_of_getElem? hz)
    refine ⟨hil, by rw [hg, hzl], by omega, fun h0 => ?_⟩
    have h0' : 0 < (bods.getD i []).length := by rw [hg, hzl]; exact h0
    have hin := off_in bods ks H i (mperm.mem_iff.2 (List.mem_range.2 (by omega)))
    have hb := mbody i (by omega)
    rw [hg, hzl] at hin hb
    refine ⟨by rw [SEC]; exact full_lt bods i y.bn hil h0', ?_, by omega, hb⟩
    rw [dse, plc_at bods ks H bods.length i (by omega) h0', hg, hzl]
  have FULL : ∀ i z, y.bod[i]? = some z → fullN bods (i + 1) = fullN bods i + (if 0 < z.2.1 then 1 else 0) := fun i z hz => by
    rw [full_succ, (BODY i z hz).2.1]
  have F0 : fullN bods 0 = 0 := rfl
  have FLE : ∀ i, i ≤ y.bn → fullN bods i ≤ 20 := fun i hi => by have := full_le bods i; omega
  have HP := Lib.hid (And.intro BODY (And.intro FULL (And.intro SEC FLE)))
  have HC := Lib.hid (And.intro (show n ≤ 100000 by omega) hcap)
  have HD := Lib.hid (And.intro hpar (And.intro d5 d6))
  have HD0 := Lib.hid d0
  clear BODY FULL SEC FLE hcap d0 dse d1 d2 d3 d4 d5 d6 m1 m2 m3 m4 m5 m6 bl nb hpar hbods hH hks mbody mlen mperm hm hga2
  have hxx := S6.out.x
  unfold Shp.cells at hxx
  obtain ⟨g0, g1, g2, g3, g4, g5, g6⟩ := cells_7 hxx
  obtain ⟨z0, z1, z2, z3, z4, z5, z6, z7⟩ := cells_8 S6.out.i
  rw [HD0.out] at z0
  clear hxx u0
  go_wp2_with (fail)
  clear g0 g1 g2 g3 g4 g5 g6 z0 z1 z2 z3 z4 z5 z6 z7
  go_loopw [11, 12, 13] (fun vk vi vf wl => ∃ (i j : Nat), vi = .int .i64 (i : Int) ∧ vk = .int .i64 (j : Int) ∧ i ≤ y.bn ∧ Hid (j = fullN bods i) ∧ Hid (St16 w y W2.heap.size W5.heap.size (some ⟨ga, 0, none⟩) n c bs im V m cV U y.gn cU xs wl)) (fun _ vi _ _ => y.bn - (intOf vi).toNat)
  case atStart => exact ⟨0, 0, rfl, rfl, Nat.zero_le _, F0.symm, S6.out⟩
  case round =>
    obtain ⟨i, j, rfl, rfl, hi, HJ, HK⟩ := hrel
    have hj20 : j ≤ 20 := by rw [HJ.out]; exact HP.out.2.2.2 i hi
    obtain ⟨z0, z1, z2, z3, z4, z5, z6, z7⟩ := cells_8 HK.out.i
    have hxx := HK.out.x
    unfold Shp.cells at hxx
    by_cases hlt : i < y.bn
    · have u1 : decide ((i : Int) < (y.bn : Int)) = true := by simp; omega
      have e3 : IntKind.i64.wrap ((i : Int) + 1) = (i : Int) + 1 := IntWalk.i64_in _ (by omega)
      have e4 : IntKind.i64.wrap ((j : Int) + 1) = (j : Int) + 1 := IntWalk.i64_in _ (by omega)
      have i1 : (i : Int) < (y.bn : Int) := by omega
      obtain ⟨z, hz⟩ : ∃ z, y.bod[i]? = some z := ⟨_, List.getElem?_eq_getElem (by have := HK.out.y.b.l; omega)⟩
      obtain ⟨bk, bo, hA, _, ck⟩ := HK.out.y.b.at_ hz
      unfold Own1.val at ck
      rw [hA] at hxx
      obtain ⟨g0, g1, g2, g3, g4, g5, g6⟩ := cells_7 hxx
      obtain ⟨_, q1, q2, q3⟩ := HP.out.1 i z hz
      have hfu := HP.out.2.1 i z hz
      clear hxx
      by_cases hz0 : z.2.1 = 0
      · have u2 : ((z.2.1 : Int) == 0) = true := by rw [hz0]; rfl
        have HN : Hid (j = fullN bods (i + 1)) := by rw [hfu, if_neg (by omega)]; exact HJ.out
        clear hz0 hz hA q1 q2 q3 hfu
        go_wp2_with (fail)
        go_roundw
        case rel => exact ⟨i + 1, j, by go_num, rfl, by omega, HN, HK⟩
        case measure => simp [intOf]; omega
      · have u2 : ((z.2.1 : Int) == 0) = false := by simp; omega
        obtain ⟨p1, p2, p3, p4⟩ := q3 (by omega)
        rw [← HJ.out] at p1 p2
        obtain ⟨fr, hfr⟩ : ∃ fr, offL bods ks H i = fr := ⟨_, rfl⟩
        rw [hfr] at p2 p3 p4
        obtain ⟨s0, s1⟩ := sec_at im.secs j _ p2
        obtain ⟨vb, vo, hV, _, k0⟩ := HK.out.r.secs.at_ s0
        obtain ⟨vb', vo', hV', _, k1⟩ := HK.out.r.secs.at_ s1
        rw [hV] at hV'
        obtain ⟨rfl, rfl⟩ : vb' = vb ∧ vo' = vo := by injection hV' with e; injection e with e1 e2; exact ⟨e1.symm, e2.symm⟩
        have k1' : wr.cell? ⟨vb', vo' + j * 2 + 1, none⟩ = some (.int .u32 (z.2.1 : Nat)) := k1
        rw [hV] at z4
        have hn100 := HC.out.1
        have u3 : decide ((m : Int) ≤ (j : Int)) = false := by simp; omega
        have u3n : decide (m ≤ j) = false := by simp; omega
        have i2 : (j : Int) < (m : Int) := by omega
        have e5 : IntKind.i64.wrap (z.2.1 : Int) = (z.2.1 : Int) := IntWalk.i64_in _ (by omega)
        have e6 : IntKind.i64.wrap (fr : Int) = (fr : Int) := IntWalk.i64_in _ (by omega)
        have HZ := Lib.hid (And.intro hz (And.intro p4 (And.intro hfu hz0)))
        have HAV := Lib.hid (And.intro hA hV)
        clear hz hA hV hV' q1 q3 hfu k1 s0 s1 p2 p4 hfr hz0
        go_upto_region 13 with (fail)
        go_quiet (fail)
        go_upto_region 16 with (fail)
        refine wp_nm fun W15 hW15 => ?_
        have S15 : Hid (St16 w y W2.heap.size W5.heap.size (some ⟨ga, 0, none⟩) n c bs im V m cV U y.gn cU xs W15) := by rw [← hW15]; exact HK.out.drewN _
        have c15 : W15.cell? ⟨bk, bo + i, none⟩ = some (.slice z.1 z.2.1 z.2.2.1) := by rw [← hW15]; exact ck
        have d15 : W15.cell? ⟨W2.heap.size, 3, none⟩ = some (.slice (some ⟨bk, bo, none⟩) y.bn y.bc) := by rw [← hW15]; exact g3
        clear hW15 HK k0 k1' ck g0 g1 g2 g3 g4 g5 g6 z0 z1 z2 z3 z4 z5 z6 z7 u3 u3n e5 e6
        have v1 : decide ((n : Int) < (fr : Int)) = false := by simp; omega
        have v1n : decide (n < fr) = false := by simp; omega
        obtain ⟨nf, hnf⟩ : ∃ nf, n - fr = nf := ⟨_, rfl⟩
        have e7 : IntKind.i64.wrap ((n : Int) - (fr : Int)) = (nf : Int) := by rw [IntWalk.i64_in _ (by omega)]; omega
        have v2 : decide ((nf : Int) < (z.2.1 : Int)) = false := by simp; omega
        have v2n : decide (nf < z.2.1) = false := by simp; omega
        obtain ⟨tt, htt⟩ : ∃ tt, fr + z.2.1 = tt := ⟨_, rfl⟩
        have e8 : IntKind.i64.wrap ((fr : Int) + (z.2.1 : Int)) = (tt : Int) := by rw [IntWalk.i64_in _ (by omega)]; omega
        have hnc := HC.out.2.1
        have o1 : fr ≤ tt := by omega
        have o2 : tt ≤ c := by omega
        have o1i : (fr : Int) ≤ (tt : Int) := by omega
        have o2i : (tt : Int) ≤ (c : Int) := by omega
        have o3 : ¬ c = fr := by have := HZ.out.2.2.2; omega
        have o3i : ¬ (c : Int) = (fr : Int) := by have := HZ.out.2.2.2; omega
        have hR1 : RB W15 (some ⟨ga, fr, none⟩) (tt - fr) z.2.2.2 := by
          have h1 := rb_takeP (rb_cutP S15.out.o.rb hnc (show fr ≤ n by omega)) (show z.2.1 ≤ n - fr by omega)
          rw [if_neg o3, Nat.zero_add] at h1
          have h2 := HZ.out.2.1
          unfold cut at h2
          rw [h2] at h1
          rw [show tt - fr = z.2.1 by omega]
          exact h1
        have hR2 := S15.out.y.b.rb z (List.mem_of_getElem? HZ.out.1)
        have EE : Hid (∀ q, Calls Tryd.prog 21 #[.slice (some ⟨ga, fr, none⟩) (tt - fr) (c - fr), .slice z.1 z.2.1 z.2.2.1] (W15.drewN q) fun e w' => e = .returned (.bool true) ∧ w' = W15.drewN q) :=
          fun q => (eq_any (some ⟨ga, fr, none⟩) z.1 (tt - fr) z.2.1 (c - fr) z.2.2.1 z.2.2.2 z.2.2.2 (W15.drewN q) (hR1.drewN q) (hR2.drewN q)).mono fun e w' h => ⟨by rw [h.1]; simp, h.2.symm⟩
        have HN : Hid (j + 1 = fullN bods (i + 1)) := by rw [HZ.out.2.2.1, if_pos (by have := HZ.out.2.2.2; omega), ← HJ.out]; exact Lib.hid rfl
        have HS15 : Hid (∀ q, St16 w y W2.heap.size W5.heap.size (some ⟨ga, 0, none⟩) n c bs im V m cV U y.gn cU xs (W15.drewN q)) := fun q => S15.out.drewN q
        clear hnf htt hR1 hR2 HZ HJ S15
        go_quiet ((go_at_call 21; exact Calls.quiet_of_same (EE.out _)))
        clear EE
        go_wp2_with (fail)
        go_roundw
        case rel => exact ⟨i + 1, j + 1, by go_num, by go_num, by omega, HN, HS15.out _⟩
        case measure => simp [intOf]; omega
    · have u1 : decide ((i : Int) < (y.bn : Int)) = false := by simp; omega
      obtain rfl : i = y.bn := by omega
      obtain ⟨g0, g1, g2, g3, g4, g5, g6⟩ := cells_7 hxx
      have hjm : j = m := by rw [HJ.out, HP.out.2.2.1]
      subst hjm
      clear hxx HJ
      go_wp2_with (fail)
      clear g0 g1 g2 g3 g4 g5 g6 z0 z1 z2 z3 z4 z5 z6 z7
      go_loopw [14] (fun vi wl => ∃ (a : Nat), vi = .int .i64 (a : Int) ∧ a ≤ y.gn ∧ Hid (St16 w y W2.heap.size W5.heap.size (some ⟨ga, 0, none⟩) n c bs im V j cV U y.gn cU xs wl)) (fun vi _ => y.gn - (intOf vi).toNat)
      case atStart => exact ⟨0, rfl, Nat.zero_le _, HK.out⟩
      case round =>
        obtain ⟨a, rfl, ha, HK2⟩ := hrel
        clear HK
        obtain ⟨z0, z1, z2, z3, z4, z5, z6, z7⟩ := cells_8 HK2.out.i
        have hxx := HK2.out.x
        unfold Shp.cells at hxx
        by_cases hla : a < y.gn
        · have w1 : decide ((a : Int) < (y.gn : Int)) = true := by simp; omega
          have e3 : IntKind.i64.wrap ((a : Int) + 1) = (a : Int) + 1 := IntWalk.i64_in _ (by have := HC.out.1; have := HB.out.1.g8; omega)
          have i1 : (a : Int) < (y.gn : Int) := by omega
          obtain ⟨z, hz⟩ : ∃ z, xs[a]? = some z := ⟨_, List.getElem?_eq_getElem (by have := HK2.out.r.kl; omega)⟩
          obtain ⟨z', hz'⟩ : ∃ z, y.sig[a]? = some z := ⟨_, List.getElem?_eq_getElem (by have := HK2.out.y.g.l; omega)⟩
          have hzz : z.2.2.2 = z'.2.2.2 := by
            have h1 := congrArg (fun l : List (List UInt8) => l[a]?) (HK2.out.r.bytes.trans HD.out.2.2)
            simp only [List.getElem?_map, hz, hz'] at h1
            exact Option.some.inj h1
          obtain ⟨b2, of2, hU, _, k0⟩ := HK2.out.r.sigs.at_ (show (xs.map Own1.val)[a]? = some z.val by rw [List.getElem?_map, hz]; rfl)
          obtain ⟨b3, of3, hG, _, l0⟩ := HK2.out.y.g.at_ hz'
          unfold Own1.val at k0 l0
          rw [hU] at z7
          rw [hG] at hxx
          obtain ⟨g0, g1, g2, g3, g4, g5, g6⟩ := cells_7 hxx
          have EE : Hid (∀ q, Calls Tryd.prog 21 #[.slice z.1 z.2.1 z.2.2.1, .slice z'.1 z'.2.1 z'.2.2.1] (wr.drewN q) fun e w' => e = .returned (.bool true) ∧ w' = wr.drewN q) :=
            fun q => (eq_any z.1 z'.1 z.2.1 z'.2.1 z.2.2.1 z'.2.2.1 z.2.2.2 z'.2.2.2 (wr.drewN q) ((HK2.out.r.rb z (List.mem_of_getElem? hz)).drewN q) ((HK2.out.y.g.rb z' (List.mem_of_getElem? hz')).drewN q)).mono fun e w' h => ⟨by rw [h.1, hzz]; simp, h.2.symm⟩
          have HN : Hid (∀ q, St16 w y W2.heap.size W5.heap.size (some ⟨ga, 0, none⟩) n c bs im V j cV U y.gn cU xs (wr.drewN q)) := fun q => HK2.out.drewN q
          clear hxx hz hz' hzz hU hG HK2
          go_wp2_with (fail)
          go_quiet ((go_at_call 21; exact Calls.quiet_of_same (EE.out _)))
          clear EE
          go_wp2_with (fail)
          go_roundw
          case rel => exact ⟨a + 1, by go_num, by omega, HN.out _⟩
          case measure => simp [intOf]; omega
        · have w1 : decide ((a : Int) < (y.gn : Int)) = false := by simp; omega
          obtain rfl : a = y.gn := by omega
          obtain ⟨g0, g1, g2, g3, g4, g5, g6⟩ := cells_7 hxx
          clear hxx
          have hsg : y.gn ≠ 0 → (y.sig.map fun z => z.2.2.2) ≠ [] := fun h h2 => by have := HB.out.1.ng; rw [h2] at this; exact h this
          by_cases hg0 : y.gn = 0
          · have w2 : ((y.gn : Int) == 0) = true := by rw [hg0]; rfl
            have w3 : ((im.length : Int) == 0) = true := by
              have h9 : (y.sig.map fun z => z.2.2.2) = [] := List.length_eq_zero_iff.1 (by rw [← HB.out.1.ng]; exact hg0)
              rw [HD.out.2.1, (HM.out.1.no h9).2]; rfl
            have b9 := HK2.out.b
            clear hg0 hsg
            go_wp2_with (first
              | (go_at_call 12; (with_reducible refine (works_any _ (HS.out.below' b9)).mono ?_); rintro e w9 ⟨rfl, hb9⟩; have HB9 := Lib.hid (kp_call b9 hb9); clear hb9))
            go_ret
            exact ⟨rfl, HB9.out⟩
          have w2 : ((y.gn : Int) == 0) = false := by simp; omega
          have HSG := Lib.hid (hsg hg0)
          clear hg0 hsg
          have hn5 := HC.out.1
          by_cases hc0 : 0 ≤ cv
          · obtain ⟨cn, rfl⟩ : ∃ cn : Nat, cv = (cn : Int) := ⟨cv.toNat, by omega⟩
            by_cases hc1 : cn < n
            · have w4 : decide ((cn : Int) < (n : Int)) = true := by simp; omega
              have w4n : decide (cn < n) = true := by simp; omega
              have o1 : (cn : Int) ≤ (c : Int) := by have := HC.out.2.1; omega
              have o2 : cn ≤ c := by have := HC.out.2.1; omega
              have hcc := HC.out.2
              have P := Lib.hid (parse_any (some ⟨ga, 0, none⟩) cn c (bs.take cn) wr (rb_takeP HK2.out.o.rb (by omega)) (HS.out.below' HK2.out.b) o2 hcc.2)
              clear hcc
              go_wp2_with (fail)
              (with_reducible refine P.out.mono ?_)
              clear P
              rintro e W20 ⟨hp, hb20⟩
              rw [HM.out.1.cut_ HSG.out cn (by have := HK2.out.o.len; omega)] at hp
              obtain rfl : e = .returned (.tuple #[.agg imZero, .int .i64 (9 : Nat)]) := hp
              have S20 := Lib.hid (HK2.out.below hb20)
              clear hb20 g0 g1 g2 g3 g4 g5 g6 z0 z1 z2 z3 z4 z5 z6 z7
              dsimp only [imZero]
              go_upto_region 30 with (fail)
              go_wp2_with (at_builtin; refine wpList_apt _ _ rfl rfl rfl w.heap.size (some ⟨ga, 0, none⟩) n c bs rfl S20.out.o mA mn mc mb rfl (HMO.out.rb.below S20.out.b) (by omega) S20.out.b.size ?_)
              intro A9 c9 W21 ho9 hg9 hl9
              have hb21 : Below w.heap.size w W21 := S20.out.b.grown hg9 S20.out.b.size (fun q hq => by have h8 : ga = q := Option.some.inj hq; have h7 : w.heap.size ≤ ga := (S20.out.o.blk_lt rfl).1; omega)
              have hcp := ho9.row.cap
              have P := Lib.hid (parse_any A9 (n + mn) c9 (bs ++ mb) W21 ho9.rb (HS.out.below' hb21) hcp.1 (by have := hcp.2; unfold maxLen at this; omega))
              have B21 := Lib.hid hb21
              clear hcp ho9 hg9 hl9 hb21
              go_wp2_with (fail)
              (with_reducible refine P.out.mono ?_)
              clear P
              rintro e W22 hp
              obtain ⟨qhv, qtv, qlv, qpv, qcv, qdv, qV, qm, qcV, qU, qk, qcU, qer, rfl, qhb, _, _, _, qcase⟩ := parse_abs hp
              have b9 := kp_call B21.out qhb
              obtain ⟨bb, hbb1, hbb2⟩ : ∃ bb : Bool, ((qer : Int) == 0) = bb ∧ ((mn : Int) == 0) = bb := by
                have hml := HMO.out.len
                by_cases h : mb = []
                · refine ⟨true, ?_, by rw [← hml, h]; rfl⟩
                  rcases qcase with ⟨h1, _⟩ | ⟨_, _, h2⟩
                  · rw [h1]; rfl
                  · rw [h, List.append_nil, HD.out.1] at h2; cases h2
                · refine ⟨false, ?_, by have := List.length_pos_iff.2 h; simp; omega⟩
                  rcases qcase with ⟨_, im', _, h2, _⟩ | ⟨h1, _, _⟩
                  · rw [HM.out.1.more HSG.out mb h (by omega)] at h2; cases h2
                  · simp; omega
              clear hp qcase
              go_wp2_with (first
                | (go_at_call 12; (with_reducible refine (works_any _ (HS.out.below' b9)).mono ?_); rintro e w9 ⟨rfl, hb9⟩; have HB9 := Lib.hid (kp_call b9 hb9); clear hb9))
              go_ret
              exact ⟨rfl, HB9.out⟩
            · have w4 : decide ((cn : Int) < (n : Int)) = false := by simp; omega
              have w4n : decide (cn < n) = false := by simp; omega
              have S20 := HK2
              go_upto_region 30 with (fail)
              go_wp2_with (at_builtin; refine wpList_apt _ _ rfl rfl rfl w.heap.size (some ⟨ga, 0, none⟩) n c bs rfl S20.out.o mA mn mc mb rfl (HMO.out.rb.below S20.out.b) (by omega) S20.out.b.size ?_)
              intro A9 c9 W21 ho9 hg9 hl9
              have hb21 : Below w.heap.size w W21 := S20.out.b.grown hg9 S20.out.b.size (fun q hq => by have h8 : ga = q := Option.some.inj hq; have h7 : w.heap.size ≤ ga := (S20.out.o.blk_lt rfl).1; omega)
              have hcp := ho9.row.cap
              have P := Lib.hid (parse_any A9 (n + mn) c9 (bs ++ mb) W21 ho9.rb (HS.out.below' hb21) hcp.1 (by have := hcp.2; unfold maxLen at this; omega))
              have B21 := Lib.hid hb21
              clear hcp ho9 hg9 hl9 hb21
              go_wp2_with (fail)
              (with_reducible refine P.out.mono ?_)
              clear P
              rintro e W22 hp
              obtain ⟨qhv, qtv, qlv, qpv, qcv, qdv, qV, qm, qcV, qU, qk, qcU, qer, rfl, qhb, _, _, _, qcase⟩ := parse_abs hp
              have b9 := kp_call B21.out qhb
              obtain ⟨bb, hbb1, hbb2⟩ : ∃ bb : Bool, ((qer : Int) == 0) = bb ∧ ((mn : Int) == 0) = bb := by
                have hml := HMO.out.len
                by_cases h : mb = []
                · refine ⟨true, ?_, by rw [← hml, h]; rfl⟩
                  rcases qcase with ⟨h1, _⟩ | ⟨_, _, h2⟩
                  · rw [h1]; rfl
                  · rw [h, List.append_nil, HD.out.1] at h2; cases h2
                · refine ⟨false, ?_, by have := List.length_pos_iff.2 h; simp; omega⟩
                  rcases qcase with ⟨_, im', _, h2, _⟩ | ⟨h1, _, _⟩
                  · rw [HM.out.1.more HSG.out mb h (by omega)] at h2; cases h2
                  · simp; omega
              clear hp qcase
              go_wp2_with (first
                | (go_at_call 12; (with_reducible refine (works_any _ (HS.out.below' b9)).mono ?_); rintro e w9 ⟨rfl, hb9⟩; have HB9 := Lib.hid (kp_call b9 hb9); clear hb9))
              go_ret
              exact ⟨rfl, HB9.out⟩
          · have w4 : decide ((0 : Int) ≤ cv) = false := by simp; omega
            have S20 := HK2
            go_upto_region 30 with (fail)
            go_wp2_with (at_builtin; refine wpList_apt _ _ rfl rfl rfl w.heap.size (some ⟨ga, 0, none⟩) n c bs rfl S20.out.o mA mn mc mb rfl (HMO.out.rb.below S20.out.b) (by omega) S20.out.b.size ?_)
            intro A9 c9 W21 ho9 hg9 hl9
            have hb21 : Below w.heap.size w W21 := S20.out.b.grown hg9 S20.out.b.size (fun q hq => by have h8 : ga = q := Option.some.inj hq; have h7 : w.heap.size ≤ ga := (S20.out.o.blk_lt rfl).1; omega)
            have hcp := ho9.row.cap
            have P := Lib.hid (parse_any A9 (n + mn) c9 (bs ++ mb) W21 ho9.rb (HS.out.below' hb21) hcp.1 (by have := hcp.2; unfold maxLen at this; omega))
            have B21 := Lib.hid hb21
            clear hcp ho9 hg9 hl9 hb21
            go_wp2_with (fail)
            (with_reducible refine P.out.mono ?_)
            clear P
            rintro e W22 hp
            obtain ⟨qhv, qtv, qlv, qpv, qcv, qdv, qV, qm, qcV, qU, qk, qcU, qer, rfl, qhb, _, _, _, qcase⟩ := parse_abs hp
            have b9 := kp_call B21.out qhb
            obtain ⟨bb, hbb1, hbb2⟩ : ∃ bb : Bool, ((qer : Int) == 0) = bb ∧ ((mn : Int) == 0) = bb := by
              have hml := HMO.out.len
              by_cases h : mb = []
              · refine ⟨true, ?_, by rw [← hml, h]; rfl⟩
                rcases qcase with ⟨h1, _⟩ | ⟨_, _, h2⟩
                · rw [h1]; rfl
                · rw [h, List.append_nil, HD.out.1] at h2; cases h2
              · refine ⟨false, ?_, by have := List.length_pos_iff.2 h; simp; omega⟩
                rcases qcase with ⟨_, im', _, h2, _⟩ | ⟨h1, _, _⟩
                · rw [HM.out.1.more HSG.out mb h (by omega)] at h2; cases h2
                · simp; omega
            clear hp qcase
            go_wp2_with (first
              | (go_at_call 12; (with_reducible refine (works_any _ (HS.out.below' b9)).mono ?_); rintro e w9 ⟨rfl, hb9⟩; have HB9 := Lib.hid (kp_call b9 hb9); clear hb9))
            go_ret
            exact ⟨rfl, HB9.out⟩
end Go.Proofs.YtjfpiidofbjdhaaDoor
