/-
  pe: the statement on how many signatures there are
-/
import Derived.Test.YtjfpiidofbjdhaaDoorPeY
import Derived.Test.YtjfpiidofbjdhaaDoorPeAe
namespace Go.Proofs.YtjfpiidofbjdhaaDoor
open Go.RowKit Go
set_option linter.unusedVariables false
set_option linter.unusedSimpArgs false
set_option maxRecDepth 100000
set_option maxHeartbeats 16000000 in
theorem sigs_row (x : Shp) (mA : Option Addr) (mn mc : Nat) (mb : List UInt8) (nv : Int) (w : World) (hx : IsShp w x) (hmo : IsBs w mA mn mc mb) (hk : (Lit.int .u8 nv).wf = true) (hT : Sizes w) :
    Calls Tryd.prog 6 #[x.val, .slice mA mn mc, .int .u8 nv] w fun e w' => e = .returned (.bool true) ∧ Below w.heap.size w w' := by
  unfold Shp.val
  replace hk := bounds_u8 hk
  obtain ⟨nn, rfl⟩ : ∃ nn : Nat, nv = (nn : Int) := ⟨nv.toNat, by omega⟩
  have HMO := Lib.hid hmo
  clear hmo
  have HX := Lib.hid hx
  have HS := Lib.hid hT
  clear hx hT
  go_enter Tryd.func6, Tryd.ntmps6
  go_upto_region 1 with (fail)
  refine wp_nm fun W0 hW0 => ?_
  have k0 : W0.heap[w.heap.size]? = some (.cells x.cells 39) := by rw [← hW0]; exact has_new w _
  have hb0 : Below w.heap.size w W0 := by rw [← hW0]; exact kp_alloc (Below.refl _ _) _
  have KX := Lib.hid (And.intro k0 hb0)
  have CB := Lib.hid (brought_any x W0 (HX.out.r.below hb0) HX.out.lc HX.out.cc HX.out.bc HX.out.gc HX.out.bn)
  clear hW0 k0 hb0
  go_wp2_with (refine wpList_load_row rfl _ _ rfl w.heap.size rfl _ _ _ _ KX.out.1 Tryd.underlying39 rfl (by kernel_rfl) ?_)
  (with_reducible refine CB.out.mono ?_)
  clear CB
  rintro e W2 ⟨y, rfl, hy, hb2, hpl, hst, hfi, hbe, hor, hbo, hsi, hgc⟩
  have hB := brd HX.out hy hst hfi hbe hor hbo hsi hgc
  have H2 := Lib.hid (And.intro hy (And.intro (kp_call KX.out.2 hb2) (And.intro hB (And.intro (has_below KX.out.1 hb2) hpl))))
  clear hy hb2 hpl hst hfi hbe hor hbo hsi hB hgc
  go_upto_region 2 with (refine wpList_store_row rfl _ _ _ rfl W2.heap.size y.cells rfl rfl _ _ (has_new W2 _) (by kernel_rfl) rfl (by simp [Shp.cells, Value.oneCell']) ?_)
  refine wp_nm fun W3 hW3 => ?_
  have k3 : W3.heap[W2.heap.size]? = some (.cells y.cells 39) := by rw [← hW3]; exact setRow_heap _ _ _ _ _ _ (has_new W2 _)
  have hb3 : Below W2.heap.size W2 W3 := by rw [← hW3]; exact below_setRow (kp_alloc (Below.refl _ _) _) (Nat.le_refl _) _
  have H3 := Lib.hid (And.intro k3 (And.intro (H2.out.1.below hb3) (And.intro (kp_call H2.out.2.1 hb3) (And.intro H2.out.2.2.1 (And.intro (has_below H2.out.2.2.2.1 hb3) H2.out.2.2.2.2)))))
  have HW2 := Lib.hid H2.out.2.1.size
  have HYB := Lib.hid (And.intro H2.out.1 hb3)
  have HKX := Lib.hid H2.out.2.2.2.1
  have HBW := Lib.hid H2.out.2.1
  clear hW3 k3 hb3 KX H2
  obtain ⟨mm, hmm⟩ : ∃ mm, nn % 20 = mm := ⟨_, rfl⟩
  have hm20 : mm < 20 := by omega
  have e1 : IntKind.i64.wrap (nn : Int) = (nn : Int) := IntWalk.i64_in _ (by omega)
  have e2 : (nn : Int).tmod 20 = (mm : Int) := by rw [Int.tmod_eq_emod_of_nonneg (by omega)]; omega
  have e3 : IntKind.i64.wrap (mm : Int) = (mm : Int) := IntWalk.i64_in _ (by omega)
  clear hmm
  by_cases hmn : 200 < mn
  · have t0 : decide ((200 : Int) < (mn : Int)) = true := by simp; omega
    have b9 := H3.out.2.2.1
    clear HYB
    go_wp2_with (first
      | (go_at_call 12; (with_reducible refine (works_any _ (HS.out.below' b9)).mono ?_); rintro e w9 ⟨rfl, hb9⟩; have HB9 := Lib.hid (kp_call b9 hb9); clear hb9))
    go_ret
    exact ⟨rfl, HB9.out⟩
  have t0 : decide ((200 : Int) < (mn : Int)) = false := by simp; omega
  have t0n : mn ≤ 200 := by omega
  have hxx := H3.out.1
  unfold Shp.cells at hxx
  have HX3 := Lib.hid hxx
  obtain ⟨g0, g1, g2, g3, g4, g5, g6⟩ := cells_7 hxx
  have f6 := Lib.frozen_of_heap hxx 6
  clear hxx
  go_upto_region 6 with (fail)
  refine wp_nm fun W3b hW3 => ?_
  have S0 : Hid (SG W2 y mb 0 none 0 0 [] W3b) := by
    refine Lib.hid ⟨?_, by rw [← hW3]; exact HYB.out.2.setCell (Nat.le_refl _) _, OwnR.nil _ _ _ _, ⟨(fun x hx => by cases hx), List.Pairwise.nil⟩, rfl, rfl, rfl⟩
    rw [← hW3]
    have h9 := heap_set_at _ W2.heap.size 6 _ _ _ (.slice none 0 0) HX3.out
    simp only [List.setIfInBounds_toArray, List.set_cons_zero, List.set_cons_succ] at h9
    exact h9
  have HXP := Lib.hid (And.intro H3.out.2.2.2.1 H3.out.2.2.2.2.2)
  clear hW3 g0 g1 g2 g3 g4 g5 g6 f6 HX3 H3
  go_wp2_with (fail)
  go_loopw [9, 10] (fun vi vs wl => ∃ (i : Nat) (V : Option Addr) (m c : Nat) (xs : List Own1), vi = .int .i64 (i : Int) ∧ i ≤ mm ∧ Hid (SG W2 y mb i V m c xs wl)) (fun vi _ _ => mm - (intOf vi).toNat)
  case atStart => exact ⟨0, none, 0, 0, [], rfl, Nat.zero_le _, S0⟩
  case round =>
    obtain ⟨i, V, m, c, xs, rfl, hi, HK⟩ := hrel
    clear S0
    by_cases hlt : i < mm
    · have u1 : decide ((i : Int) < (mm : Int)) = true := by simp; omega
      obtain ⟨q, hq⟩ : ∃ q, UInt8.ofNat i = q := ⟨_, rfl⟩
      have hqn : q.toNat = i := by rw [← hq, UInt8.toNat_ofNat']; omega
      have e4 : IntKind.u8.wrap (i : Int) = (q.toNat : Int) := by rw [hqn]; exact IntWalk.u8_in _ (by omega)
      have e5 : IntKind.i64.wrap ((i : Int) + 1) = (i : Int) + 1 := IntWalk.i64_in _ (by omega)
      have HQ := Lib.hid hq
      clear hq hqn
      go_upto_region 10 with (fail)
      refine wp_nm fun wB hWB => ?_
      have hnB : Below wr.heap.size wr wB := by rw [← hWB]; exact kp_alloc (Below.refl _ _) _
      have hwr : W2.heap.size + 1 ≤ wr.heap.size := block_lt HK.out.x
      have HO1 : Hid (OwnB wB (W2.heap.size + 1) (some ⟨wr.heap.size, 0, none⟩) 1 1 [q]) := by rw [← hWB]; exact Lib.hid ((OwnR.lit wr 5 1 #[.int .u8 (q.toNat : Int)] 1 (by decide) rfl).lower hwr)
      have HNB := Lib.hid hnB
      have HRB := Lib.hid (HMO.out.rb.below (kp_call (kp_call HBW.out HK.out.b) hnB))
      have hzB : wr.heap.size ≤ wB.heap.size := hnB.size
      clear hWB hnB
      go_wp2_with (at_builtin; refine wpList_apt _ _ rfl rfl rfl (W2.heap.size + 1) (some ⟨wr.heap.size, 0, none⟩) 1 1 [q] rfl HO1.out mA mn mc mb rfl HRB.out (by omega) (by omega) ?_)
      intro A9 c9 we ho9 hg9 hl9
      have hbn9 : Below wr.heap.size wr we := HNB.out.grown hg9 hzB (fun p hp => by have h8 : wr.heap.size = p := Option.some.inj hp; omega)
      have HE := Lib.hid (HK.out.below hbn9)
      have HO9 : Hid (OwnB we (W2.heap.size + 1) A9 (1 + mn) c9 (UInt8.ofNat i :: mb)) := by rw [HQ.out]; exact Lib.hid ho9
      have HF9 : Hid (∀ x ∈ xs, ∀ g, blk x.1 = some g → ∀ g', blk A9 = some g' → g < g') := Lib.hid (fun x hx g hg g' hg' => by
        have h1 := ((HK.out.so.own x hx).1.blk_lt hg).2
        have h2 : wr.heap.size ≤ g' := by
          rcases hl9 with e | e <;> rw [hg'] at e
          · have h8 : g' = wr.heap.size := Option.some.inj e
            omega
          · have h8 : g' = wB.heap.size := Option.some.inj e
            omega
        omega)
      have hwe : W2.heap.size + 1 ≤ we.heap.size := block_lt HE.out.x
      have hm8 : m ≤ 20 := by rw [HK.out.ml]; omega
      have hxx := HE.out.x
      simp only [Shp.cells, Shp.withG] at hxx
      obtain ⟨_, _, _, _, _, _, y6⟩ := cells_7 hxx
      clear ho9 hg9 hl9 hbn9 HO1 HRB HNB HK hxx
      go_wp2_with (at_builtin; refine wpList_appLt bss_rowP _ _ rfl rfl rfl (W2.heap.size + 1) V m c _ rfl (HE.out.row.alloc _) _ 1 1 #[.slice A9 (1 + mn) c9] (0, 0) rfl (has_new _ _) rfl (by intro u hu; simp at hu; subst hu; rfl) (by unfold maxLen; omega) (by omega) (by simp; omega) ?_)
      intro V' c' w4 ho4 hg4 hl4
      obtain ⟨hN, hx4⟩ := HE.out.step HO9.out (by omega) HF9.out ho4 hg4 (by simpa using hl4) hwe
      have HN := Lib.hid hN
      simp only [Shp.cells, Shp.withG] at hx4
      obtain ⟨_, _, _, _, _, _, y7⟩ := cells_7 hx4
      have f7 := Lib.frozen_of_heap hx4 6
      clear ho4 hg4 hl4 hN hx4 y6
      go_wp2_with (fail)
      go_roundw
      case rel => exact ⟨i + 1, V', m + 1, c', _, by go_num, by omega, HN⟩
      case measure => simp [intOf]; omega
    · have u1 : decide ((i : Int) < (mm : Int)) = false := by simp; omega
      obtain rfl : i = mm := by omega
      have hsh := HK.out.shp HYB.out.1 HXP.out.1 (by omega) (by have := HMO.out.len; omega)
      have H3b := Lib.hid (And.intro HK.out.x (And.intro hsh.1 (And.intro (kp_call HBW.out HK.out.b) (And.intro hsh.2 (And.intro (has_below HKX.out HK.out.b) (show (y.withG V m c xs).plus = x.plus from HXP.out.2))))))
      have HGN : Hid ((y.withG V m c xs).gn = i) := HK.out.ml
      clear hsh HYB HXP HKX HK HMO
      generalize y.withG V m c xs = y1 at H3b HGN
      clear V m c xs
      generalize wr = WL at H3b
      have C := Lib.hid (writeD_any y1 WL H3b.out.2.1 H3b.out.2.2.2.1.s1 H3b.out.2.2.2.1.s2 H3b.out.2.2.2.1.s3 H3b.out.2.2.2.1.s4)
      obtain ⟨t, l, hM, hlen⟩ := write_made y1.plus y1.stub y1.fill (y1.bod.map fun z => z.2.2.2) y1.ord y1.beh (y1.sig.map fun z => z.2.2.2) H3b.out.2.2.2.1.bd
      obtain ⟨bs, hbs⟩ : ∃ bs, writeL y1.plus y1.stub y1.fill (y1.bod.map fun z => z.2.2.2) y1.ord y1.beh (y1.sig.map fun z => z.2.2.2) = bs := ⟨_, rfl⟩
      rw [hbs] at C hM hlen
      have HM := Lib.hid (And.intro hM hlen)
      clear hM hlen hbs
      go_wp2_with (refine wpList_load_row rfl _ _ rfl W2.heap.size rfl _ _ _ _ H3b.out.1 Tryd.underlying39 rfl (by kernel_rfl) ?_)
      (with_reducible refine C.out.mono ?_)
      rintro e W4 ⟨A, n, c, rfl, ho4, hb4⟩
      clear C
      have hb4' := kp_call H3b.out.2.2.1 hb4
      have hcap := ho4.row.cap
      have P1 := Lib.hid (parse_any A n c bs W4 ho4.rb (HS.out.below' hb4') hcap.1 (by have := hcap.2; unfold maxLen at this; omega))
      have H4 := Lib.hid (And.intro (has_below H3b.out.1 hb4) (And.intro (H3b.out.2.1.below hb4) (And.intro hb4' (And.intro H3b.out.2.2.2.1 (And.intro (has_below H3b.out.2.2.2.2.1 hb4) (And.intro H3b.out.2.2.2.2.2 (And.intro (ho4.lower H3b.out.2.2.1.size) (And.intro hcap ho4.len))))))))
      clear ho4 hb4 hb4' hcap H3b
      go_wp2_with (fail)
      (with_reducible refine P1.out.mono ?_)
      clear P1
      rintro e W5 ⟨hp, hb5⟩
      have GN9 : (y1.sig.map fun z => z.2.2.2).length = i := by rw [← H4.out.2.2.2.1.ng]; exact HGN.out
      by_cases h8 : 8 < i
      · rw [HM.out.1.parse, if_pos (by omega)] at hp
        obtain rfl : e = .returned (.tuple #[.agg imZero, .int .i64 (10 : Nat)]) := hp
        have t9 : decide ((8 : Int) < (i : Int)) = true := by simp; omega
        have b5 := kp_call H4.out.2.2.1 hb5
        have HB5 := Lib.hid b5
        clear hb5 b5 H4
        go_upto_region 13 with (refine wpList_store_row rfl _ _ _ rfl W5.heap.size imZero rfl rfl _ _ (has_new W5 _) (by kernel_rfl) rfl (by simp [imZero, Value.oneCell']) ?_)
        refine wp_nm fun W6 hW6 => ?_
        have b9 : Below w.heap.size w W6 := kp_call HB5.out (by rw [← hW6]; exact below_setRow (kp_alloc (Below.refl _ _) _) (Nat.le_refl _) _)
        clear hW6
        go_wp2_with (first
          | (go_at_call 12; (with_reducible refine (works_any _ (HS.out.below' b9)).mono ?_); rintro e w9 ⟨rfl, hb9⟩; have HB9 := Lib.hid (kp_call b9 hb9); clear hb9))
        go_ret
        exact ⟨rfl, HB9.out⟩
      rw [HM.out.1.parse, if_neg (by omega)] at hp
      obtain ⟨im, him⟩ : ∃ im, imL y1.plus (peL y1.stub) (y1.bod.map fun z => z.2.2.2).length (hdL y1.plus y1.stub y1.fill (y1.bod.map fun z => z.2.2.2).length) (y1.bod.map fun z => z.2.2.2) (ordL (y1.bod.map fun z => z.2.2.2).length y1.ord) t l (y1.sig.map fun z => z.2.2.2) = im := ⟨_, rfl⟩
      rw [him] at hp
      obtain ⟨V, m, cV, U, k, cU, xs, rfl, hio⟩ := hp
      have H5 := Lib.hid (And.intro (has_below H4.out.1 hb5) (And.intro (H4.out.2.1.below hb5) (And.intro (kp_call H4.out.2.2.1 hb5) (And.intro hio.rd (H4.out.2.2.2.2.2.2.1.below hb5 (Nat.le_refl _))))))
      have HB := Lib.hid (And.intro H4.out.2.2.2.1 (And.intro H4.out.2.2.2.2.2.1 (And.intro H4.out.2.2.2.2.2.2.2.1 (And.intro H4.out.2.2.2.2.2.2.2.2 him))))
      have HK0 := Lib.hid (has_below H4.out.2.2.2.2.1 hb5)
      clear hio hb5 him H4
      go_upto_region 13 with (refine wpList_store_row rfl _ _ _ rfl W5.heap.size (imVal im V m cV U k cU) rfl rfl _ _ (has_new W5 _) (by kernel_rfl) rfl (by simp [imVal, Value.oneCell']) ?_)
      refine wp_nm fun W6 hW6 => ?_
      have k6 : W6.heap[W5.heap.size]? = some (.cells (imVal im V m cV U k cU) 28) := by rw [← hW6]; exact setRow_heap _ _ _ _ _ _ (has_new W5 _)
      have hb6 : Below W5.heap.size W5 W6 := by rw [← hW6]; exact below_setRow (kp_alloc (Below.refl _ _) _) (Nat.le_refl _) _
      have S6 := Lib.hid (show St16 w y1 W2.heap.size W5.heap.size A n c bs im V m cV U k cU xs W6 from ⟨has_below H5.out.1 hb6, k6, H5.out.2.2.2.2.below hb6 (Nat.le_refl _), H5.out.2.2.2.1.below hb6, H5.out.2.1.below hb6, kp_call H5.out.2.2.1 hb6⟩)
      have HK6 := Lib.hid (has_below HK0.out hb6)
      clear hW6 k6 hb6 H5 HK0
      have d5 : im.length = l := by rw [← HB.out.2.2.2.2]; rfl
      have d6 : im.sigs = y1.sig.map fun z => z.2.2.2 := by rw [← HB.out.2.2.2.2]; rfl
      have hk1 : k = i := by
        have h2 := congrArg List.length S6.out.r.bytes
        rw [List.length_map, d6, GN9] at h2
        rw [S6.out.r.kl, h2]
      subst hk1
      have LL : (im.length = 0 ∧ k = 0) ∨ (0 < im.length ∧ 0 < k) := by
        by_cases h0 : (y1.sig.map fun z => z.2.2.2) = []
        · refine .inl ⟨by rw [d5]; exact (HM.out.1.no h0).2, by rw [← GN9, h0]; rfl⟩
        · obtain ⟨_, _, _, h4, _, _⟩ := HM.out.1.yes h0
          have := List.length_pos_iff.2 h0
          exact .inr ⟨by omega, by omega⟩
      have HLL := Lib.hid LL
      have HD6 := Lib.hid d6
      have hn5 : n ≤ 100000 := by have := HM.out.1.big; have := HB.out.2.2.2.1; omega
      have t9 : decide ((8 : Int) < (k : Int)) = false := by simp; omega
      obtain ⟨z0, z1, z2, z3, z4, z5, z6, z7⟩ := cells_8 S6.out.i
      clear LL d5 d6 GN9
      go_wp2_with (fail)
      clear z0 z1 z2 z3 z4 z5 z6 z7
      go_loopw [13] (fun vi wl => ∃ (a : Nat), vi = .int .i64 (a : Int) ∧ a ≤ k ∧ Hid (St16 w y1 W2.heap.size W5.heap.size A n c bs im V m cV U k cU xs wl)) (fun vi _ => k - (intOf vi).toNat)
      case atStart => exact ⟨0, rfl, Nat.zero_le _, S6.out⟩
      case round =>
        obtain ⟨a, rfl, ha, HK2⟩ := hrel
        clear S6 HK6
        obtain ⟨z0, z1, z2, z3, z4, z5, z6, z7⟩ := cells_8 HK2.out.i
        have hxx := HK2.out.x
        unfold Shp.cells at hxx
        by_cases hla : a < k
        · have w1 : decide ((a : Int) < (k : Int)) = true := by simp; omega
          have e3 : IntKind.i64.wrap ((a : Int) + 1) = (a : Int) + 1 := IntWalk.i64_in _ (by omega)
          have i1 : (a : Int) < (k : Int) := by omega
          have hgk : y1.gn = k := HGN.out
          obtain ⟨z, hz⟩ : ∃ z, xs[a]? = some z := ⟨_, List.getElem?_eq_getElem (by have := HK2.out.r.kl; omega)⟩
          obtain ⟨z', hz'⟩ : ∃ z, y1.sig[a]? = some z := ⟨_, List.getElem?_eq_getElem (by have := HK2.out.y.g.l; omega)⟩
          have hzz : z.2.2.2 = z'.2.2.2 := by
            have h1 := congrArg (fun l : List (List UInt8) => l[a]?) (HK2.out.r.bytes.trans HD6.out)
            simp only [List.getElem?_map, hz, hz'] at h1
            exact Option.some.inj h1
          obtain ⟨b2, of2, hU, _, k0⟩ := HK2.out.r.sigs.at_ (show (xs.map Own1.val)[a]? = some z.val by rw [List.getElem?_map, hz]; rfl)
          obtain ⟨b3, of3, hG, _, l0⟩ := HK2.out.y.g.at_ hz'
          unfold Own1.val at k0 l0
          rw [hU] at z7
          rw [hG, hgk] at hxx
          obtain ⟨g0, g1, g2, g3, g4, g5, g6⟩ := cells_7 hxx
          have EE : Hid (∀ q, Calls Tryd.prog 21 #[.slice z.1 z.2.1 z.2.2.1, .slice z'.1 z'.2.1 z'.2.2.1] (wr.drewN q) fun e w' => e = .returned (.bool true) ∧ w' = wr.drewN q) :=
            fun q => (eq_any z.1 z'.1 z.2.1 z'.2.1 z.2.2.1 z'.2.2.1 z.2.2.2 z'.2.2.2 (wr.drewN q) ((HK2.out.r.rb z (List.mem_of_getElem? hz)).drewN q) ((HK2.out.y.g.rb z' (List.mem_of_getElem? hz')).drewN q)).mono fun e w' h => ⟨by rw [h.1, hzz]; simp, h.2.symm⟩
          have HN : Hid (∀ q, St16 w y1 W2.heap.size W5.heap.size A n c bs im V m cV U k cU xs (wr.drewN q)) := fun q => HK2.out.drewN q
          clear hxx hz hz' hzz hU hG HK2 hgk
          go_wp2_with (fail)
          go_quiet ((go_at_call 21; exact Calls.quiet_of_same (EE.out _)))
          clear EE
          go_wp2_with (fail)
          go_roundw
          case rel => exact ⟨a + 1, by go_num, by omega, HN.out _⟩
          case measure => simp [intOf]; omega
        · have w1 : decide ((a : Int) < (k : Int)) = false := by simp; omega
          obtain rfl : a = k := by omega
          have b9 := HK2.out.b
          obtain ⟨bb, hb1, hb2, hb3, hb4⟩ : ∃ bb : Bool, decide ((0 : Int) < (im.length : Int)) = bb ∧ decide ((0 : Int) < (a : Int)) = bb ∧ decide (0 < im.length) = bb ∧ decide (0 < a) = bb := by
            rcases HLL.out with ⟨h1, h2⟩ | ⟨h1, h2⟩
            · exact ⟨false, by simp; omega, by simp; omega, by simp; omega, by simp; omega⟩
            · exact ⟨true, by simp; omega, by simp; omega, by simp; omega, by simp; omega⟩
          clear hxx
          go_wp2_with (first
            | (go_at_call 12; (with_reducible refine (works_any _ (HS.out.below' b9)).mono ?_); rintro e w9 ⟨rfl, hb9⟩; have HB9 := Lib.hid (kp_call b9 hb9); clear hb9))
          go_ret
          exact ⟨rfl, HB9.out⟩
end Go.Proofs.YtjfpiidofbjdhaaDoor
