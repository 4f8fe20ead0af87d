/-
  measure: the statement on what is not measured.
-/
import Derived.Test.YtcedojmhgmgcgaaDoorMeM
import Derived.Test.YtcedojmhgmgcgaaDoorMp9
import Derived.StillTailTactics
import Derived.Deep.Cut
namespace Go.Proofs.YtcedojmhgmgcgaaDoor
open Go.RowKit Go
set_option linter.unusedVariables false
set_option linter.unusedSimpArgs false
set_option maxRecDepth 100000
attribute [local go_sem] Oper.semAt_some
set_option maxHeartbeats 16000000 in
theorem refuses_row (x : Shp) (cv : Int) (mA : Option Addr) (mn mc : Nat) (mb : List UInt8) (w : World) (hx : IsShp w x) (hcw : (Lit.int .i64 cv).wf = true) (hmo : IsBs w mA mn mc mb) (hT : Sizes w) :
    Calls Tryd.prog 7 #[x.val, .int .i64 cv, .slice mA mn mc] w fun e w' => e = .returned (.bool true) ∧ Below w.heap.size w w' := by
  unfold Shp.val
  have HMO := Lib.hid hmo
  have HCW := bounds_i64 hcw
  obtain ⟨hcw1, hcw2⟩ := HCW
  clear hmo hcw
  have HX := Lib.hid hx
  have HS := Lib.hid hT
  clear hx hT
  go_enter Tryd.func7, Tryd.ntmps7
  go_upto_region 1 with (fail)
  refine wp_nm fun W0 hW0 => ?_
  have k0 : W0.heap[w.heap.size]? = some (.cells x.cells 42) := by rw [← hW0]; exact has_new w _
  have hb0 : Below w.heap.size w W0 := by rw [← hW0]; exact kp_alloc (Below.refl _ _) _
  have KX := Lib.hid (And.intro k0 hb0)
  have CB := Lib.hid (brought_any x W0 (HX.out.r.below hb0) HX.out.lc HX.out.cc HX.out.bc HX.out.gc HX.out.bn)
  clear hW0 k0 hb0
  go_wp2_with (refine wpList_load_row rfl _ _ rfl w.heap.size rfl _ _ _ _ KX.out.1 Tryd.underlying42 rfl (by kernel_rfl) ?_)
  (with_reducible refine CB.out.mono ?_)
  clear CB
  rintro e W2 ⟨y, rfl, hy, hb2, hpl, hst, hfi, hbe, hor, hbo, hsi, hgc⟩
  have hB := brd HX.out hy hst hfi hbe hor hbo hsi hgc
  have H2 := Lib.hid (And.intro hy (And.intro (kp_call KX.out.2 hb2) (And.intro hB (And.intro (has_below KX.out.1 hb2) hpl))))
  clear hy hb2 hpl hst hfi hbe hor hbo hsi hB hgc
  go_upto_region 2 with (refine wpList_store_row rfl _ _ _ rfl W2.heap.size y.cells rfl rfl _ _ (has_new W2 _) (by kernel_rfl) rfl (by simp [Shp.cells, Value.oneCell']) ?_)
  refine wp_nm fun W3 hW3 => ?_
  have k3 : W3.heap[W2.heap.size]? = some (.cells y.cells 42) := by rw [← hW3]; exact setRow_heap _ _ _ _ _ _ (has_new W2 _)
  have hb3 : Below W2.heap.size W2 W3 := by rw [← hW3]; exact below_setRow (kp_alloc (Below.refl _ _) _) (Nat.le_refl _) _
  have H3 := Lib.hid (And.intro k3 (And.intro (H2.out.1.below hb3) (And.intro (kp_call H2.out.2.1 hb3) (And.intro H2.out.2.2.1 (And.intro (has_below H2.out.2.2.2.1 hb3) H2.out.2.2.2.2)))))
  have HW2 := Lib.hid H2.out.2.1.size
  have HYB := Lib.hid (And.intro H2.out.1 hb3)
  have HKX := Lib.hid H2.out.2.2.2.1
  have HBW := Lib.hid H2.out.2.1
  clear hW3 k3 hb3 KX H2
  have C := Lib.hid (writeD_any y W3 H3.out.2.1 H3.out.2.2.2.1.s1 H3.out.2.2.2.1.s2 H3.out.2.2.2.1.s3 H3.out.2.2.2.1.s4)
  obtain ⟨t, l, hM, hlen⟩ := write_made y.plus y.stub y.fill (y.bod.map fun z => z.2.2.2) y.ord y.beh (y.sig.map fun z => z.2.2.2) H3.out.2.2.2.1.bd
  obtain ⟨bs, hbs⟩ : ∃ bs, writeL y.plus y.stub y.fill (y.bod.map fun z => z.2.2.2) y.ord y.beh (y.sig.map fun z => z.2.2.2) = bs := ⟨_, rfl⟩
  rw [hbs] at C hM hlen
  have HM := Lib.hid (And.intro hM hlen)
  have HBS := Lib.hid hbs
  clear hM hlen hbs
  go_wp2_with (refine wpList_load_row rfl _ _ rfl W2.heap.size rfl _ _ _ _ H3.out.1 Tryd.underlying42 rfl (by kernel_rfl) ?_)
  (with_reducible refine C.out.mono ?_)
  rintro e W4 ⟨A, n, c, rfl, ho4, hb4⟩
  clear C
  have hb4' := kp_call H3.out.2.2.1 hb4
  have hcap := ho4.row.cap
  have hnc : n ≤ c := hcap.1
  have hcc : c ≤ 9223372036854775807 := by have := hcap.2; unfold maxLen at this; omega
  have H4 := Lib.hid (And.intro (has_below H3.out.1 hb4) (And.intro (ho4.lower H3.out.2.2.1.size) (And.intro hb4' (And.intro H3.out.2.2.2.1 ho4.len))))
  obtain ⟨gx, hgx⟩ : ∃ gx, W2.heap.size = gx := ⟨_, rfl⟩
  have HY4 := Lib.hid (H3.out.2.1.below hb4)
  rw [hgx] at H4 ⊢
  clear ho4 hb4 hb4' hcap H3 hgx HW2 HYB HKX HBW
  have hg := H4.out.1
  unfold Shp.cells at hg
  obtain ⟨g0, g1, g2, g3, g4, g5, g6⟩ := cells_7 hg
  clear hg g0 g1 g2 g3 g4 g5
  by_cases hg0 : y.gn = 0
  · have w2 : ((y.gn : Int) == 0) = true := by rw [hg0]; rfl
    clear hg0
    go_wp2_with (fail)
    (with_reducible refine (works17_any _ (HS.out.below' H4.out.2.2.1)).mono ?_)
    rintro e w9 ⟨rfl, hb9⟩
    have HB9 := Lib.hid (kp_call H4.out.2.2.1 hb9)
    clear hb9
    go_wp2_with (fail)
    go_ret
    exact ⟨rfl, HB9.out⟩
  by_cases hm100 : 100 < mn
  · have w2 : ((y.gn : Int) == 0) = false := by simp; omega
    have w3 : decide ((100 : Int) < (mn : Int)) = true := by simp; omega
    clear hg0 hm100
    go_wp2_with (fail)
    (with_reducible refine (works17_any _ (HS.out.below' H4.out.2.2.1)).mono ?_)
    rintro e w9 ⟨rfl, hb9⟩
    have HB9 := Lib.hid (kp_call H4.out.2.2.1 hb9)
    clear hb9
    go_wp2_with (fail)
    go_ret
    exact ⟨rfl, HB9.out⟩
  have w2 : ((y.gn : Int) == 0) = false := by simp; omega
  have w3 : decide ((100 : Int) < (mn : Int)) = false := by simp; omega
  have HSG : Hid ((y.sig.map fun z => z.2.2.2) ≠ []) := by
    refine Lib.hid (fun h => hg0 ?_)
    rw [H4.out.2.2.2.1.ng, h]; rfl
  have HD : Hid (parseQ bs = .inr (imL y.plus (peL y.stub) (y.bod.map fun z => z.2.2.2).length (hdL y.plus y.stub y.fill (y.bod.map fun z => z.2.2.2).length) (y.bod.map fun z => z.2.2.2) (ordL (y.bod.map fun z => z.2.2.2).length y.ord) t l (y.sig.map fun z => z.2.2.2))) := by
    have h9 := HM.out.1.parse
    rw [if_neg (by have := H4.out.2.2.2.1.g8; have := H4.out.2.2.2.1.ng; omega)] at h9
    exact Lib.hid h9
  have hbl : bs.length = n := H4.out.2.2.2.2
  have hnb : n ≤ 100000 := by have := HM.out.1.big; omega
  have HBL := Lib.hid hbl
  have S4 := Lib.hid (And.intro H4.out.2.1 H4.out.2.2.1)
  clear hg0 hbl H4 HY4
  by_cases hc0 : 0 ≤ cv
  · obtain ⟨cn, rfl⟩ : ∃ cn : Nat, cv = (cn : Int) := ⟨cv.toNat, by omega⟩
    by_cases hc1 : cn < n
    · have w4 : decide ((cn : Int) < (n : Int)) = true := by simp; omega
      have w4n : decide (cn < n) = true := by simp; omega
      have o1 : (cn : Int) ≤ (c : Int) := by omega
      have o2 : cn ≤ c := by omega
      have HCT : Hid (parseQ (bs.take cn) = .inl 9) := Lib.hid (HM.out.1.cut_ HSG.out cn (by have := HBL.out; omega))
      have P := Lib.hid (mranges_any A cn c (bs.take cn) W4 (rb_takeD S4.out.1.rb (by omega)) (HS.out.below' S4.out.2) o2 hcc)
      go_wp2_with (fail)
      (with_reducible refine P.out.mono ?_)
      clear P
      rintro e W5 hp
      unfold RangesP at hp
      rw [HCT.out] at hp
      obtain ⟨rfl, hb5⟩ := hp
      have S5 := Lib.hid (And.intro (S4.out.1.below hb5 (Nat.le_refl _)) (kp_call S4.out.2 hb5))
      have P := Lib.hid (digest_any A cn c (bs.take cn) W5 (rb_takeD S5.out.1.rb (by omega)) (HS.out.below' S5.out.2) o2 hcc)
      clear hb5
      go_wp2_with (fail)
      (with_reducible refine P.out.mono ?_)
      clear P
      rintro e W6 hp
      obtain ⟨ds0, iv0, er2, rfl, hda0⟩ := digest_abs hp
      have DA0 := Lib.hid hda0
      have DSZ0 := Lib.hid hda0.sz
      have DS10 := Lib.hid hda0.s1
      have DSO0 := Lib.hid hda0.so
      clear hp hda0
      go_upto_region 8 with (first
        | (refine wpList_store_row rfl _ _ _ rfl W6.heap.size ds0 rfl rfl _ _ (has_alloc (has_new W6 (.cells zD 28)) _) DSZ0.out DS10.out DSO0.out ?_)
        | (refine wpList_store_row rfl _ _ _ rfl (W6.heap.size + 1) iv0 rfl rfl _ _ ((setRow_other _ _ _ _ (by omega)).trans (has_new' (W6.alloc (.cells zD 28)) (.cells imZero 33) _ (by simp))) DA0.out.isz DA0.out.is1 DA0.out.iso ?_))
      refine wp_nm fun W7 hW7 => ?_
      obtain ⟨q0, hq0⟩ : ∃ q0, W6.heap.size = q0 := ⟨_, rfl⟩
      have K7 : Hid (W7.heap[q0]? = some (.cells ds0 28) ∧ W7.heap[q0 + 1]? = some (.cells iv0 33) ∧ Below W6.heap.size W6 W7) := by
        rw [← hW7, ← hq0]
        exact Lib.hid ⟨(setRow_other _ _ _ _ (by omega)).trans (setRow_heap _ _ _ _ _ _ (has_alloc (has_new W6 (.cells zD 28)) _)), setRow_heap _ _ _ _ _ _ ((setRow_other _ _ _ _ (by omega)).trans (has_new' (W6.alloc (.cells zD 28)) (.cells imZero 33) _ (by simp))), below_setRow (below_setRow (kp_alloc (kp_alloc (Below.refl _ _) _) _) (Nat.le_refl _) _) (by omega) _⟩
      have HZq0 := Lib.hid hq0
      rw [hq0]
      clear hW7 hq0
      have z2 : er2 = 9 ∧ ds0 = zD ∧ iv0 = imZero := by
        by_cases h : er2 = 0
        · obtain ⟨im, _, _, _, _, _, _, _, h1, _⟩ := DA0.out.ok h; rw [HCT.out] at h1; cases h1
        · obtain ⟨h1, h2, h3⟩ := DA0.out.no h; rw [HCT.out] at h1; injection h1 with h1; exact ⟨h1.symm, h2, h3⟩
      obtain ⟨rfl, rfl, rfl⟩ := z2
      have hb57 : Below W5.heap.size W5 W7 := kp_call DA0.out.b K7.out.2.2
      have S7 := Lib.hid (And.intro (S5.out.1.below hb57 (Nat.le_refl _)) (And.intro (kp_call S5.out.2 hb57) (And.intro K7.out.1 K7.out.2.1)))
      have heq : ∀ W, (Op.equalIn 10000 28 (.agg zD) (.agg zD)).run Tryd.prog W = .ok true W := fun W => dig_same z32 rfl W
      have SZ := Lib.hid (same_zero W7)
      clear hb57 K7 S5 S4 g6 w2 w3 w4 w4n
      rw [show ((9 : Nat) : Int) = 9 from rfl]
      go_upto_region 10 with (first
        | (refine wpList_load_rowH rfl _ _ rfl q0 rfl _ _ _ _ S7.out.2.2.1 Tryd.underlying28 rfl DSZ0.out ?_)
        | (refine wpList_load_rowH rfl _ _ rfl (q0 + 1) rfl _ _ _ _ S7.out.2.2.2 Tryd.underlying33 rfl (by kernel_rfl) ?_)
        | (refine wpList_buildH rfl 28 _ rfl zD (by kernel_rfl) ?_)
        | (refine wpList_buildH rfl 33 _ rfl imZero (by kernel_rfl) ?_)
        | (go_at_call 15; refine SZ.out.mono ?_; rintro e w8 ⟨rfl, h8⟩; have S20 := Lib.hid (And.intro (S7.out.1.below h8 (Nat.le_refl _)) (kp_call S7.out.2.1 h8)); clear h8))
      go_upto_region 10 with (fail)
      go_wp2_with (at_builtin; refine wpList_apn _ _ rfl rfl rfl w.heap.size A n c bs rfl S20.out.1 mA mn mc mb rfl (HMO.out.rb.below S20.out.2) (by omega) S20.out.2.size ?_)
      intro A9 c9 W21 ho9 hg9
      have hb21 : Below w.heap.size w W21 := S20.out.2.grown hg9 S20.out.2.size (fun q hq => (S20.out.1.blk_lt hq).1)
      have hcp := ho9.row.cap
      have P := Lib.hid (mranges_any A9 (n + mn) c9 (bs ++ mb) W21 ho9.rb (HS.out.below' hb21) hcp.1 (by have := hcp.2; unfold maxLen at this; omega))
      have B21 := Lib.hid hb21
      clear hcp ho9 hg9 hb21
      go_wp2_with (fail)
      (with_reducible refine P.out.mono ?_)
      clear P
      rintro e W22 hp
      obtain ⟨LA, lm, ld, qer, rfl, hra⟩ := ranges_abs hp
      have b9 := kp_call B21.out hra.b
      obtain ⟨bb, hbb1, hbb2⟩ : ∃ bb : Bool, ((qer : Int) == 0) = bb ∧ ((mn : Int) == 0) = bb := by
        have hml := HMO.out.len
        by_cases h : mb = []
        · refine ⟨true, ?_, by rw [← hml, h]; rfl⟩
          by_cases h0 : qer = 0
          · rw [h0]; rfl
          · have h2 := (hra.no h0).1
            rw [h, List.append_nil, HD.out] at h2; cases h2
        · refine ⟨false, ?_, by have := List.length_pos_iff.2 h; simp; omega⟩
          by_cases h0 : qer = 0
          · obtain ⟨im', h2, _⟩ := hra.ok h0
            rw [HM.out.1.more HSG.out mb h (by omega)] at h2; cases h2
          · simp; omega
      have B9 := Lib.hid b9
      clear hp hra b9
      go_wp2_with (first
        | (go_at_call 8; (with_reducible refine (works17_any _ (HS.out.below' B9.out)).mono ?_); rintro e w9 ⟨rfl, hb9⟩; have HB9 := Lib.hid (kp_call B9.out hb9); clear hb9))
      go_ret
      exact ⟨rfl, HB9.out⟩
    · have w4 : decide ((cn : Int) < (n : Int)) = false := by simp; omega
      have w4n : decide (cn < n) = false := by simp; omega
      have S20 := S4
      go_upto_region 10 with (fail)
      go_wp2_with (at_builtin; refine wpList_apn _ _ rfl rfl rfl w.heap.size A n c bs rfl S20.out.1 mA mn mc mb rfl (HMO.out.rb.below S20.out.2) (by omega) S20.out.2.size ?_)
      intro A9 c9 W21 ho9 hg9
      have hb21 : Below w.heap.size w W21 := S20.out.2.grown hg9 S20.out.2.size (fun q hq => (S20.out.1.blk_lt hq).1)
      have hcp := ho9.row.cap
      have P := Lib.hid (mranges_any A9 (n + mn) c9 (bs ++ mb) W21 ho9.rb (HS.out.below' hb21) hcp.1 (by have := hcp.2; unfold maxLen at this; omega))
      have B21 := Lib.hid hb21
      clear hcp ho9 hg9 hb21
      go_wp2_with (fail)
      (with_reducible refine P.out.mono ?_)
      clear P
      rintro e W22 hp
      obtain ⟨LA, lm, ld, qer, rfl, hra⟩ := ranges_abs hp
      have b9 := kp_call B21.out hra.b
      obtain ⟨bb, hbb1, hbb2⟩ : ∃ bb : Bool, ((qer : Int) == 0) = bb ∧ ((mn : Int) == 0) = bb := by
        have hml := HMO.out.len
        by_cases h : mb = []
        · refine ⟨true, ?_, by rw [← hml, h]; rfl⟩
          by_cases h0 : qer = 0
          · rw [h0]; rfl
          · have h2 := (hra.no h0).1
            rw [h, List.append_nil, HD.out] at h2; cases h2
        · refine ⟨false, ?_, by have := List.length_pos_iff.2 h; simp; omega⟩
          by_cases h0 : qer = 0
          · obtain ⟨im', h2, _⟩ := hra.ok h0
            rw [HM.out.1.more HSG.out mb h (by omega)] at h2; cases h2
          · simp; omega
      have B9 := Lib.hid b9
      clear hp hra b9
      go_wp2_with (first
        | (go_at_call 8; (with_reducible refine (works17_any _ (HS.out.below' B9.out)).mono ?_); rintro e w9 ⟨rfl, hb9⟩; have HB9 := Lib.hid (kp_call B9.out hb9); clear hb9))
      go_ret
      exact ⟨rfl, HB9.out⟩
  · have w4 : decide ((0 : Int) ≤ cv) = false := by simp; omega
    have S20 := S4
    go_upto_region 10 with (fail)
    go_wp2_with (at_builtin; refine wpList_apn _ _ rfl rfl rfl w.heap.size A n c bs rfl S20.out.1 mA mn mc mb rfl (HMO.out.rb.below S20.out.2) (by omega) S20.out.2.size ?_)
    intro A9 c9 W21 ho9 hg9
    have hb21 : Below w.heap.size w W21 := S20.out.2.grown hg9 S20.out.2.size (fun q hq => (S20.out.1.blk_lt hq).1)
    have hcp := ho9.row.cap
    have P := Lib.hid (mranges_any A9 (n + mn) c9 (bs ++ mb) W21 ho9.rb (HS.out.below' hb21) hcp.1 (by have := hcp.2; unfold maxLen at this; omega))
    have B21 := Lib.hid hb21
    clear hcp ho9 hg9 hb21
    go_wp2_with (fail)
    (with_reducible refine P.out.mono ?_)
    clear P
    rintro e W22 hp
    obtain ⟨LA, lm, ld, qer, rfl, hra⟩ := ranges_abs hp
    have b9 := kp_call B21.out hra.b
    obtain ⟨bb, hbb1, hbb2⟩ : ∃ bb : Bool, ((qer : Int) == 0) = bb ∧ ((mn : Int) == 0) = bb := by
      have hml := HMO.out.len
      by_cases h : mb = []
      · refine ⟨true, ?_, by rw [← hml, h]; rfl⟩
        by_cases h0 : qer = 0
        · rw [h0]; rfl
        · have h2 := (hra.no h0).1
          rw [h, List.append_nil, HD.out] at h2; cases h2
      · refine ⟨false, ?_, by have := List.length_pos_iff.2 h; simp; omega⟩
        by_cases h0 : qer = 0
        · obtain ⟨im', h2, _⟩ := hra.ok h0
          rw [HM.out.1.more HSG.out mb h (by omega)] at h2; cases h2
        · simp; omega
    have B9 := Lib.hid b9
    clear hp hra b9
    go_wp2_with (first
      | (go_at_call 8; (with_reducible refine (works17_any _ (HS.out.below' B9.out)).mono ?_); rintro e w9 ⟨rfl, hb9⟩; have HB9 := Lib.hid (kp_call B9.out hb9); clear hb9))
    go_ret
    exact ⟨rfl, HB9.out⟩
end Go.Proofs.YtcedojmhgmgcgaaDoor
