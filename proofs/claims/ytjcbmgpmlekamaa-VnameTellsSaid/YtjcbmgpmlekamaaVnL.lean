/-
  vname: the document's Split (made by genVnL.py).
-/
import Derived.Test.YtjcbmgpmlekamaaVnK
import Derived.Laws.CopyOwn
namespace Go.Proofs.Ytjcbmgpmlekamaa
open Go.RowKit Go
set_option linter.unusedVariables false
set_option linter.unusedSimpArgs false
set_option maxRecDepth 100000
def TN (x0 x7 x8 x9 x10 x11 x12 x13 x14 x15 x16 : Value) (r : Nat) (L : Array Bool) : Array Value := #[x0, undef, .string ⟨#[]⟩, .pointer (some ⟨r, 0, none⟩), .bool false, .pointer (some ⟨r + 1, 0, none⟩), undef, x7, x8, x9, x10, x11, x12, x13, x14, x15, x16, gd L 0 (.agg zA), undef, undef, undef, undef, undef, undef, undef, undef, undef, undef, undef, undef, undef, undef]
def SN (x0 x7 x8 x9 x10 x11 x12 x13 x14 x15 x16 : Value) (r : Nat) (w0 : World) (L : Array Bool) (a : Act) (w : World) : Prop :=
  a = ⟨TN x0 x7 x8 x9 x10 x11 x12 x13 x14 x15 x16 r L, []⟩ ∧ w = if L.getD 2 false = true then w0.setRow r zA else w0
theorem nextW {w w0 w1 : World} {L : Array Bool} {j : Nat} (h : w = if L.getD j false = true then w1 else w0) {i : Nat} (hi : i < L.size) (hj : i ≠ j) : w = if (L.setIfInBounds i true).getD j false = true then w1 else w0 := by
  rw [lset L i _ hi]
  simp only [hj, decide_false, Bool.false_or]
  exact h
theorem gv_len (G : List UInt8) (hG : G.length = 16) : (gv G).size = 16 := by simp only [gv, List.size_toArray, List.length_map, hG]
theorem gv_one (G : List UInt8) : (gv G).all (·.oneCell') = true := by simp [gv, bv_one]
def TY (b off n c r : Nat) (G : List UInt8) (sx : ByteArray) (u20 u21 u22 u23 u24 u25 u26 u27 : Value) (L : Array Bool) : Array Value := #[.slice (some ⟨b, off, none⟩) n c, undef, gx L 4 (.string sx) (.string ⟨#[]⟩), .pointer (some ⟨r, 0, none⟩), gx L 6 (.bool true) (.bool false), .pointer (some ⟨r + 1, 0, none⟩), .int .i64 16, .slice (some ⟨b, off, none⟩) n c, .int .i64 (n : Int), .bool false, .bool false, .slice (some ⟨b, off, none⟩) n c, .slice (some ⟨b, off + 16, none⟩) (n - 16) (c - 16), .string sx, .bool true, .bool false, .bool false, undef, .int .i64 16, .bool false, u20, u21, u22, u23, u24, u25, u26, u27, gd L 0 (.slice (some ⟨b, off, none⟩) n c), gd L 1 (.slice (some ⟨b, off + 16, none⟩) (n - 16) (c - 16)), gd L 2 (.string sx), gd L 3 (.agg (gv G))]
def SY (b off n c r : Nat) (G : List UInt8) (sx : ByteArray) (u20 u21 u22 u23 u24 u25 u26 u27 : Value) (w0 : World) (L : Array Bool) (a : Act) (w : World) : Prop :=
  a = ⟨TY b off n c r G sx u20 u21 u22 u23 u24 u25 u26 u27 L, []⟩ ∧ w = if L.getD 5 false = true then w0.setRow r (gv G) else w0
set_option maxHeartbeats 16000000 in
theorem dsplit_any (A : Option Addr) (n c : Nat) (bs : List UInt8) (w : World) (h : RB w A n bs) (hn : n ≤ 4096) (hnc : n ≤ c) :
    Calls Try.prog 13 #[.slice A n c] w fun e w' => e = .returned (splitV bs) ∧ Below w.heap.size w w' := by
  have hlen := h.1
  by_cases h16 : n < 16
  · have hk : keyB bs = false := by unfold keyB; rw [decide_eq_false (by omega)]; rfl
    have hv : splitV bs = .tuple #[.string ⟨#[]⟩, .agg zA, .bool false] := by unfold splitV; rw [hk]; rfl
    rw [hv]
    have i1 : decide ((n : Int) < 16) = true := decide_eq_true (by omega)
    clear hk hv h hlen hn
    go_enter Try.func13, Try.ntmps13
    go_wp2_with fail
    refine wp_nm fun w0 hw0 => ?_
    have hz : (w.alloc (.cells zA 23)).heap.size = w.heap.size + 1 := by simp
    have Z0 : Hid (w0.drew.heap[w.heap.size]? = some (.cells zA 23) ∧ w0.drew.heap[w.heap.size + 1]? = some (.cells zA 23) ∧ Below w.heap.size w w0.drew) := by
      rw [← hw0]
      refine ⟨has_alloc (has_new _ _) _, ?_, kp_drew (kp_alloc (kp_alloc (Below.refl _ _) _) _)⟩
      rw [← hz]
      exact has_new _ _
    have HI : Hid ((Try.prog.info? 23).map (·.size) = some zA.size) := by unfold Hid; kernel_rfl
    clear hw0 hz i1
    refine wp_region_invA (by kernel_rfl) (by kernel_rfl) (SN (.slice A n c) (.slice A n c) (.int .i64 (n : Int)) (.bool true) (.bool true) (undef) (undef) (undef) (undef) (undef) (.bool true) w.heap.size w0.drew) ?_ ?_ ?_
    · exact ⟨by rfl, by rfl⟩
    · rintro L a W i ⟨rfl, hW⟩ hC
      have hsz := hC.size
      have hlt := hC.lt
      simp only [List.size_toArray, List.length_cons, List.length_nil] at hsz hlt
      have hi : i < L.size := by omega
      have hnot := hC.not
      have HW := Lib.hid hW
      have h5 : W.heap[w.heap.size + 1]? = some (.cells zA 23) := by
        rw [hW]
        split
        · rw [setRow_other _ _ _ _ (by omega)]; exact Z0.out.2.1
        · exact Z0.out.2.1
      have H5 := Lib.hid h5
      clear hW h5
      rcases (show i = 0 ∨ i = 1 ∨ i = 2 ∨ i = 3 by omega) with rfl | rfl | rfl | rfl
      · refine wpOp_step rfl (fun K' hK => ?_)
        have HK := Lib.hid hK
        clear hK
        rw [if_pos (by rfl)]
        simp only [TN]
        refine wp_load_row _ _ rfl (w.heap.size + 1) rfl _ _ _ _ H5.out Try.underlying23 rfl HI.out ?_
        show K' ⟨_, _⟩ _
        refine HK.out _ _ ⟨?_, nextW HW.out hi (by decide)⟩
        simp +decide only [TN, gd_same _ _ _ hi]
        rfl
      · refine wpOp_step rfl (fun K' hK => ?_)
        have HK := Lib.hid hK
        clear hK
        rw [if_pos (by rfl)]
        simp only [TN]
        go_wp2_with fail
        refine HK.out _ _ ⟨?_, nextW HW.out hi (by decide)⟩
        simp +decide only [TN, gd_set _ _ _ _ hi]
      · have d0 := hC.dep (j := 0) (by kernel_rfl)
        refine wpOp_step rfl (fun K' hK => ?_)
        have HK := Lib.hid hK
        clear hK
        have hst : W = w0.drew := by rw [HW.out, if_neg (by rw [hnot]; decide)]
        rw [if_pos (by rfl)]
        simp only [TN, gd_yes _ d0]
        refine wp_store_row _ _ _ rfl w.heap.size zA rfl rfl _ _ (by rw [hst]; exact Z0.out.1) HI.out rfl (by kernel_rfl) ?_
        show K' ⟨_, _⟩ _
        refine HK.out _ _ ⟨?_, ?_⟩
        · simp +decide only [TN, gd_set _ _ _ _ hi]
          simp only [gd_yes _ d0]
        · rw [lset L _ _ hi, hst]; simp
      · refine wpOp_step rfl (fun K' hK => ?_)
        have HK := Lib.hid hK
        clear hK
        rw [if_pos (by rfl)]
        simp only [TN]
        go_wp2_with fail
        refine HK.out _ _ ⟨?_, nextW HW.out hi (by decide)⟩
        simp +decide only [TN, gd_set _ _ _ _ hi]
    · rintro L a W ⟨rfl, hW⟩ hsz hall
      have h2 := hall 2 (by decide)
      rw [if_pos h2] at hW
      subst hW
      have hrow := setRow_heap w0.drew w.heap.size _ zA _ _ Z0.out.1
      have HL := Lib.hid (LV.agg (P := Try.prog) hrow Try.underlying23 rfl HI.out)
      have HBl : Hid (Below w.heap.size w (w0.drew.setRow w.heap.size zA)) := below_setRow Z0.out.2.2 (Nat.le_refl _) _
      clear hrow h2 hall hsz
      simp only [TN]
      go_wp2_with fail
      refine bodyPost_ret (results_tct Try.results13 _ HL.out) rfl ?_
      exact ⟨rfl, HBl.out⟩
  obtain ⟨b, off, rfl, hb⟩ : ∃ b off, A = some ⟨b, off, none⟩ ∧ b < w.heap.size := by
    obtain ⟨b, off, e, h1, _⟩ := h.2 (fun h9 => by rw [h9] at hlen; simp at hlen; omega)
    exact ⟨b, off, e, h1⟩
  have hs : rightL (bs.drop 16) = keyB bs := by unfold keyB; rw [decide_eq_true (by omega)]; rfl
  have RT := Lib.hid (fun W => dright_any (strOf (bs.drop 16)) (by rw [strOf_size, List.length_drop]; omega) W)
  rw [strOf_data, hs] at RT
  have i1 : decide ((n : Int) < 16) = false := decide_eq_false (by omega)
  have i3 : 16 ≤ n := by omega
  have i4 : (16 : Int) ≤ (n : Int) := by omega
  have i5 : (n : Int) ≤ (c : Int) := by omega
  cases hk : keyB bs with
  | false =>
    have hv : splitV bs = .tuple #[.string ⟨#[]⟩, .agg zA, .bool false] := by unfold splitV; rw [hk]; rfl
    rw [hv]
    rw [hk] at RT
    by_cases i2 : c = 16
    · have k1 := conv_t ((h.alloc (.cells zA 23)).alloc (.cells zA 23)) i3
      have k0 := fun cap => k1 off (.inr (by omega)) cap
      unfold zA at k0
      clear k1 hk hv h hlen hs
      generalize strOf (bs.drop 16) = sx at *
      go_enter Try.func13, Try.ntmps13
      go_wp2_with fail
      refine (RT.out _).mono ?_
      rintro e w2 ⟨rfl, hw2⟩
      subst w2
      go_wp2_with fail
      refine wp_nm fun w0 hw0 => ?_
      have hz : (w.alloc (.cells zA 23)).heap.size = w.heap.size + 1 := by simp
      have Z0 : Hid (w0.drew.heap[w.heap.size]? = some (.cells zA 23) ∧ w0.drew.heap[w.heap.size + 1]? = some (.cells zA 23) ∧ Below w.heap.size w w0.drew) := by
        rw [← hw0]
        refine ⟨has_alloc (has_new _ _) _, ?_, kp_drew (kp_alloc (kp_alloc (Below.refl _ _) _) _)⟩
        rw [← hz]
        exact has_new _ _
      have HI : Hid ((Try.prog.info? 23).map (·.size) = some zA.size) := by unfold Hid; kernel_rfl
      clear hw0 hz k0
      refine wp_region_invA (by kernel_rfl) (by kernel_rfl) (SN (.slice (some ⟨b, off, none⟩) n 16) (.slice (some ⟨b, off, none⟩) n 16) (.int .i64 (n : Int)) (.bool false) (.bool false) (.slice (some ⟨b, off, none⟩) n 16) (.slice (some ⟨b, off, none⟩) (n - 16) 0) (.string sx) (.bool false) (.bool true) (.bool true) w.heap.size w0.drew) ?_ ?_ ?_
      · exact ⟨by rfl, by rfl⟩
      · rintro L a W i ⟨rfl, hW⟩ hC
        have hsz := hC.size
        have hlt := hC.lt
        simp only [List.size_toArray, List.length_cons, List.length_nil] at hsz hlt
        have hi : i < L.size := by omega
        have hnot := hC.not
        have HW := Lib.hid hW
        have h5 : W.heap[w.heap.size + 1]? = some (.cells zA 23) := by
          rw [hW]
          split
          · rw [setRow_other _ _ _ _ (by omega)]; exact Z0.out.2.1
          · exact Z0.out.2.1
        have H5 := Lib.hid h5
        clear hW h5
        rcases (show i = 0 ∨ i = 1 ∨ i = 2 ∨ i = 3 by omega) with rfl | rfl | rfl | rfl
        · refine wpOp_step rfl (fun K' hK => ?_)
          have HK := Lib.hid hK
          clear hK
          rw [if_pos (by rfl)]
          simp only [TN]
          refine wp_load_row _ _ rfl (w.heap.size + 1) rfl _ _ _ _ H5.out Try.underlying23 rfl HI.out ?_
          show K' ⟨_, _⟩ _
          refine HK.out _ _ ⟨?_, nextW HW.out hi (by decide)⟩
          simp +decide only [TN, gd_same _ _ _ hi]
          rfl
        · refine wpOp_step rfl (fun K' hK => ?_)
          have HK := Lib.hid hK
          clear hK
          rw [if_pos (by rfl)]
          simp only [TN]
          go_wp2_with fail
          refine HK.out _ _ ⟨?_, nextW HW.out hi (by decide)⟩
          simp +decide only [TN, gd_set _ _ _ _ hi]
        · have d0 := hC.dep (j := 0) (by kernel_rfl)
          refine wpOp_step rfl (fun K' hK => ?_)
          have HK := Lib.hid hK
          clear hK
          have hst : W = w0.drew := by rw [HW.out, if_neg (by rw [hnot]; decide)]
          rw [if_pos (by rfl)]
          simp only [TN, gd_yes _ d0]
          refine wp_store_row _ _ _ rfl w.heap.size zA rfl rfl _ _ (by rw [hst]; exact Z0.out.1) HI.out rfl (by kernel_rfl) ?_
          show K' ⟨_, _⟩ _
          refine HK.out _ _ ⟨?_, ?_⟩
          · simp +decide only [TN, gd_set _ _ _ _ hi]
            simp only [gd_yes _ d0]
          · rw [lset L _ _ hi, hst]; simp
        · refine wpOp_step rfl (fun K' hK => ?_)
          have HK := Lib.hid hK
          clear hK
          rw [if_pos (by rfl)]
          simp only [TN]
          go_wp2_with fail
          refine HK.out _ _ ⟨?_, nextW HW.out hi (by decide)⟩
          simp +decide only [TN, gd_set _ _ _ _ hi]
      · rintro L a W ⟨rfl, hW⟩ hsz hall
        have h2 := hall 2 (by decide)
        rw [if_pos h2] at hW
        subst hW
        have hrow := setRow_heap w0.drew w.heap.size _ zA _ _ Z0.out.1
        have HL := Lib.hid (LV.agg (P := Try.prog) hrow Try.underlying23 rfl HI.out)
        have HBl : Hid (Below w.heap.size w (w0.drew.setRow w.heap.size zA)) := below_setRow Z0.out.2.2 (Nat.le_refl _) _
        clear hrow h2 hall hsz
        simp only [TN]
        go_wp2_with fail
        refine bodyPost_ret (results_tct Try.results13 _ HL.out) rfl ?_
        exact ⟨rfl, HBl.out⟩
    · have k1 := conv_t ((h.alloc (.cells zA 23)).alloc (.cells zA 23)) i3
      have k2 := fun cap => k1 (off + 16) (.inl rfl) cap
      unfold zA at k2
      clear k1 hk hv h hlen hs
      generalize strOf (bs.drop 16) = sx at *
      go_enter Try.func13, Try.ntmps13
      go_wp2_with fail
      refine (RT.out _).mono ?_
      rintro e w2 ⟨rfl, hw2⟩
      subst w2
      go_wp2_with fail
      refine wp_nm fun w0 hw0 => ?_
      have hz : (w.alloc (.cells zA 23)).heap.size = w.heap.size + 1 := by simp
      have Z0 : Hid (w0.drew.heap[w.heap.size]? = some (.cells zA 23) ∧ w0.drew.heap[w.heap.size + 1]? = some (.cells zA 23) ∧ Below w.heap.size w w0.drew) := by
        rw [← hw0]
        refine ⟨has_alloc (has_new _ _) _, ?_, kp_drew (kp_alloc (kp_alloc (Below.refl _ _) _) _)⟩
        rw [← hz]
        exact has_new _ _
      have HI : Hid ((Try.prog.info? 23).map (·.size) = some zA.size) := by unfold Hid; kernel_rfl
      clear hw0 hz k2
      refine wp_region_invA (by kernel_rfl) (by kernel_rfl) (SN (.slice (some ⟨b, off, none⟩) n c) (.slice (some ⟨b, off, none⟩) n c) (.int .i64 (n : Int)) (.bool false) (.bool false) (.slice (some ⟨b, off, none⟩) n c) (.slice (some ⟨b, off + 16, none⟩) (n - 16) (c - 16)) (.string sx) (.bool false) (.bool true) (.bool true) w.heap.size w0.drew) ?_ ?_ ?_
      · exact ⟨by rfl, by rfl⟩
      · rintro L a W i ⟨rfl, hW⟩ hC
        have hsz := hC.size
        have hlt := hC.lt
        simp only [List.size_toArray, List.length_cons, List.length_nil] at hsz hlt
        have hi : i < L.size := by omega
        have hnot := hC.not
        have HW := Lib.hid hW
        have h5 : W.heap[w.heap.size + 1]? = some (.cells zA 23) := by
          rw [hW]
          split
          · rw [setRow_other _ _ _ _ (by omega)]; exact Z0.out.2.1
          · exact Z0.out.2.1
        have H5 := Lib.hid h5
        clear hW h5
        rcases (show i = 0 ∨ i = 1 ∨ i = 2 ∨ i = 3 by omega) with rfl | rfl | rfl | rfl
        · refine wpOp_step rfl (fun K' hK => ?_)
          have HK := Lib.hid hK
          clear hK
          rw [if_pos (by rfl)]
          simp only [TN]
          refine wp_load_row _ _ rfl (w.heap.size + 1) rfl _ _ _ _ H5.out Try.underlying23 rfl HI.out ?_
          show K' ⟨_, _⟩ _
          refine HK.out _ _ ⟨?_, nextW HW.out hi (by decide)⟩
          simp +decide only [TN, gd_same _ _ _ hi]
          rfl
        · refine wpOp_step rfl (fun K' hK => ?_)
          have HK := Lib.hid hK
          clear hK
          rw [if_pos (by rfl)]
          simp only [TN]
          go_wp2_with fail
          refine HK.out _ _ ⟨?_, nextW HW.out hi (by decide)⟩
          simp +decide only [TN, gd_set _ _ _ _ hi]
        · have d0 := hC.dep (j := 0) (by kernel_rfl)
          refine wpOp_step rfl (fun K' hK => ?_)
          have HK := Lib.hid hK
          clear hK
          have hst : W = w0.drew := by rw [HW.out, if_neg (by rw [hnot]; decide)]
          rw [if_pos (by rfl)]
          simp only [TN, gd_yes _ d0]
          refine wp_store_row _ _ _ rfl w.heap.size zA rfl rfl _ _ (by rw [hst]; exact Z0.out.1) HI.out rfl (by kernel_rfl) ?_
          show K' ⟨_, _⟩ _
          refine HK.out _ _ ⟨?_, ?_⟩
          · simp +decide only [TN, gd_set _ _ _ _ hi]
            simp only [gd_yes _ d0]
          · rw [lset L _ _ hi, hst]; simp
        · refine wpOp_step rfl (fun K' hK => ?_)
          have HK := Lib.hid hK
          clear hK
          rw [if_pos (by rfl)]
          simp only [TN]
          go_wp2_with fail
          refine HK.out _ _ ⟨?_, nextW HW.out hi (by decide)⟩
          simp +decide only [TN, gd_set _ _ _ _ hi]
      · rintro L a W ⟨rfl, hW⟩ hsz hall
        have h2 := hall 2 (by decide)
        rw [if_pos h2] at hW
        subst hW
        have hrow := setRow_heap w0.drew w.heap.size _ zA _ _ Z0.out.1
        have HL := Lib.hid (LV.agg (P := Try.prog) hrow Try.underlying23 rfl HI.out)
        have HBl : Hid (Below w.heap.size w (w0.drew.setRow w.heap.size zA)) := below_setRow Z0.out.2.2 (Nat.le_refl _) _
        clear hrow h2 hall hsz
        simp only [TN]
        go_wp2_with fail
        refine bodyPost_ret (results_tct Try.results13 _ HL.out) rfl ?_
        exact ⟨rfl, HBl.out⟩
  | true =>
    have hv : splitV bs = .tuple #[.string (strOf (bs.drop 16)), .agg (gv (bs.take 16)), .bool true] := by unfold splitV; rw [hk]; rfl
    rw [hv]
    rw [hk] at RT
    have i2 : ¬ c = 16 := by
      intro h9
      have h8 : n = 16 := by omega
      have h7 : bs.drop 16 = [] := List.drop_eq_nil_iff.2 (by omega)
      rw [h7, hk] at hs
      cases hs
    have k1 := conv_t ((h.alloc (.cells zA 23)).alloc (.cells zA 23)) i3
    have k2 := fun cap => k1 (off + 16) (.inl rfl) cap
    unfold zA at k2
    have HB := Lib.hid h
    clear k1 hk hv h hlen hs
    obtain ⟨sx, hsx⟩ : ∃ sx, strOf (bs.drop 16) = sx := ⟨_, rfl⟩
    rw [hsx] at k2 RT ⊢
    have HSX := Lib.hid hsx
    clear hsx
    go_enter Try.func13, Try.ntmps13
    go_wp2_with fail
    refine (RT.out _).mono ?_
    rintro e w2 ⟨rfl, hw2⟩
    subst w2
    go_wp2_with fail
    go_loopw [6] (fun v wl => ∃ (i : Nat) (X : Array Value), v = .int .i64 (i : Int) ∧ i ≤ 16 ∧ Hid (wl.heap[w.heap.size]? = some (.cells zA 23) ∧ wl.heap[w.heap.size + 1]? = some (.cells X 23) ∧ X.size = 16 ∧ (∀ j, j < i → X[j]? = (bs.map bv)[j]?) ∧ Below w.heap.size w wl)) (fun v _ => 16 - (intOf v).toNat)
    case atStart =>
      have hz : (w.alloc (.cells zA 23)).heap.size = w.heap.size + 1 := by simp
      refine ⟨0, zA, rfl, Nat.zero_le _, has_alloc (has_new _ _) _, ?_, rfl, fun j hj => absurd hj (Nat.not_lt_zero _), kp_alloc (kp_alloc (Below.refl _ _) _) _⟩
      rw [← hz]
      exact has_new _ _
    case round =>
      obtain ⟨i, X, rfl, hi, HK⟩ := hrel
      clear k2
      by_cases hlt : i < 16
      · have i6 : (i : Int) < 16 := by omega
        have i7 : (i : Int) < (n : Int) := by omega
        have i8 : (0 : Int) ≤ (i : Int) := by omega
        have e9 : IntKind.i64.wrap ((i : Int) + 1) = (i : Int) + 1 := IntWalk.i64_in _ (by omega)
        obtain ⟨b', off', q, e, _, hq, hcq⟩ := (HB.out.below' HK.out.2.2.2.2 (Nat.le_refl _)).at_ (show i < n by omega)
        injection e with e
        injection e with e1 e2
        subst e1 e2
        have hXi : i < X.size := by have := HK.out.2.2.1; omega
        obtain ⟨xo, hxo⟩ : ∃ xo, X[i]? = some xo := ⟨_, Array.getElem?_eq_getElem hXi⟩
        have o1 : wr.cell? ⟨w.heap.size + 1, i, none⟩ = some xo := by
          rw [Lib.cell_of_heap HK.out.2.1 i, hxo]
        have f1 := Lib.frozen_of_heap HK.out.2.1 i
        have NXT : Hid ((wr.setCell ⟨w.heap.size + 1, i, none⟩ (.int .u8 (q.toNat : Int))).heap[w.heap.size]? = some (.cells zA 23) ∧ (wr.setCell ⟨w.heap.size + 1, i, none⟩ (.int .u8 (q.toNat : Int))).heap[w.heap.size + 1]? = some (.cells (X.setIfInBounds i (.int .u8 (q.toNat : Int))) 23) ∧ (X.setIfInBounds i (.int .u8 (q.toNat : Int))).size = 16 ∧ (∀ j, j < i + 1 → (X.setIfInBounds i (.int .u8 (q.toNat : Int)))[j]? = (bs.map bv)[j]?) ∧ Below w.heap.size w (wr.setCell ⟨w.heap.size + 1, i, none⟩ (.int .u8 (q.toNat : Int)))) := by
          refine ⟨has_set HK.out.1 (by omega), heap_set_at _ _ _ _ _ _ _ HK.out.2.1, by simp [HK.out.2.2.1], fun j hj => ?_, kp_set HK.out.2.2.2.2 (by omega)⟩
          by_cases hji : j = i
          · subst hji
            rw [Array.getElem?_setIfInBounds_self_of_lt hXi, List.getElem?_map, hq]
            rfl
          · rw [Array.getElem?_setIfInBounds_ne (by omega)]
            exact HK.out.2.2.2.1 j (by omega)
        clear HK hq hXi hxo
        go_wp2_with fail
        go_roundw
        case rel => exact ⟨i + 1, _, by go_num, by omega, NXT⟩
        case measure => simp [intOf]; omega
      · have i6 : ¬ (i : Int) < 16 := by omega
        obtain rfl : i = 16 := by omega
        have hX : X = gv (bs.take 16) := by
          apply Array.ext_getElem?
          intro j
          rcases Nat.lt_or_ge j 16 with hj | hj
          · rw [HK.out.2.2.2.1 j hj]
            simp [gv, List.getElem?_take, hj]
          · rw [Array.getElem?_eq_none (by rw [HK.out.2.2.1]; omega)]
            simp [gv, List.getElem?_take]
            omega
        subst hX
        go_wp2_with fail
        refine wp_nm fun w0 hw0 => ?_
        have HT16 : Hid ((bs.take 16).length = 16) := by unfold Hid; rw [List.length_take, HB.out.1]; omega
        have Z0 : Hid (w0.drew.heap[w.heap.size]? = some (.cells zA 23) ∧ w0.drew.heap[w.heap.size + 1]? = some (.cells (gv (bs.take 16)) 23) ∧ Below w.heap.size w w0.drew) := by
          rw [← hw0]
          exact ⟨HK.out.1, HK.out.2.1, kp_drew HK.out.2.2.2.2⟩
        have HI := Lib.hid (gv_size _ HT16.out)
        clear hw0 HK
        refine wp_region_invA (by kernel_rfl) (by kernel_rfl) (SY b off n c w.heap.size (bs.take 16) sx u20 u21 u22 u23 u24 u25 u26 u27 w0.drew) ?_ ?_ ?_
        · exact ⟨by rfl, by rfl⟩
        · rintro L a W i ⟨rfl, hW⟩ hC
          have hsz := hC.size
          have hlt := hC.lt
          simp only [List.size_toArray, List.length_cons, List.length_nil] at hsz hlt
          have hi : i < L.size := by omega
          have hnot := hC.not
          have HW := Lib.hid hW
          have h5 : W.heap[w.heap.size + 1]? = some (.cells (gv (bs.take 16)) 23) ∧ Below w.heap.size w W := by
            rw [hW]
            split
            · exact ⟨by rw [setRow_other _ _ _ _ (by omega)]; exact Z0.out.2.1, below_setRow Z0.out.2.2 (Nat.le_refl _) _⟩
            · exact Z0.out.2
          have H5 := Lib.hid h5
          clear hW h5
          rcases (show i = 0 ∨ i = 1 ∨ i = 2 ∨ i = 3 ∨ i = 4 ∨ i = 5 ∨ i = 6 by omega) with rfl | rfl | rfl | rfl | rfl | rfl | rfl
          · refine wpOp_step rfl (fun K' hK => ?_)
            have HK9 := Lib.hid hK
            clear hK
            rw [if_pos (by rfl)]
            simp only [TY]
            go_wp2_with fail
            refine HK9.out _ _ ⟨?_, nextW HW.out hi (by decide)⟩
            simp +decide only [TY, gd_same _ _ _ hi, gd_set _ _ _ _ hi, gx_same _ _ _ _ hi, gx_set _ _ _ _ _ hi]
          · have d0 := hC.dep (j := 0) (by kernel_rfl)
            refine wpOp_step rfl (fun K' hK => ?_)
            have HK9 := Lib.hid hK
            clear hK
            rw [if_pos (by rfl)]
            simp only [TY, gd_yes _ d0]
            go_wp2_with fail
            refine HK9.out _ _ ⟨?_, nextW HW.out hi (by decide)⟩
            simp +decide only [TY, gd_same _ _ _ hi, gd_set _ _ _ _ hi, gx_same _ _ _ _ hi, gx_set _ _ _ _ _ hi]
            try simp only [gd_yes _ d0]
          · have d0 := hC.dep (j := 1) (by kernel_rfl)
            have k1 := conv_t (HB.out.below H5.out.2) i3 (off + 16) (.inl rfl) (c - 16)
            rw [HSX.out] at k1
            refine wpOp_step rfl (fun K' hK => ?_)
            have HK9 := Lib.hid hK
            clear hK
            rw [if_pos (by rfl)]
            simp only [TY, gd_yes _ d0]
            go_wp2_with fail
            refine HK9.out _ _ ⟨?_, nextW HW.out hi (by decide)⟩
            simp +decide only [TY, gd_same _ _ _ hi, gd_set _ _ _ _ hi, gx_same _ _ _ _ hi, gx_set _ _ _ _ _ hi]
            try simp only [gd_yes _ d0]
          · refine wpOp_step rfl (fun K' hK => ?_)
            have HK9 := Lib.hid hK
            clear hK
            rw [if_pos (by rfl)]
            simp only [TY]
            refine wp_load_row _ _ rfl (w.heap.size + 1) rfl _ _ _ _ H5.out.1 Try.underlying23 rfl HI.out ?_
            show K' ⟨_, _⟩ _
            refine HK9.out _ _ ⟨?_, nextW HW.out hi (by decide)⟩
            simp +decide only [TY, gd_same _ _ _ hi, gd_set _ _ _ _ hi, gx_same _ _ _ _ hi, gx_set _ _ _ _ _ hi]
            rfl
          · have d0 := hC.dep (j := 2) (by kernel_rfl)
            refine wpOp_step rfl (fun K' hK => ?_)
            have HK9 := Lib.hid hK
            clear hK
            rw [if_pos (by rfl)]
            simp only [TY, gd_yes _ d0]
            go_wp2_with fail
            refine HK9.out _ _ ⟨?_, nextW HW.out hi (by decide)⟩
            simp +decide only [TY, gd_same _ _ _ hi, gd_set _ _ _ _ hi, gx_same _ _ _ _ hi, gx_set _ _ _ _ _ hi]
            try simp only [gd_yes _ d0]
          · have d0 := hC.dep (j := 3) (by kernel_rfl)
            refine wpOp_step rfl (fun K' hK => ?_)
            have HK9 := Lib.hid hK
            clear hK
            have hst : W = w0.drew := by rw [HW.out, if_neg (by rw [hnot]; decide)]
            rw [if_pos (by rfl)]
            simp only [TY, gd_yes _ d0]
            refine wp_store_row _ _ _ rfl w.heap.size (gv (bs.take 16)) rfl rfl _ zA (by rw [hst]; exact Z0.out.1) HI.out (by rw [gv_len _ HT16.out]; rfl) (gv_one _) ?_
            show K' ⟨_, _⟩ _
            refine HK9.out _ _ ⟨?_, ?_⟩
            · simp +decide only [TY, gd_set _ _ _ _ hi, gx_set _ _ _ _ _ hi]
              simp only [gd_yes _ d0]
            · rw [lset L _ _ hi, hst]; simp
          · refine wpOp_step rfl (fun K' hK => ?_)
            have HK9 := Lib.hid hK
            clear hK
            rw [if_pos (by rfl)]
            simp only [TY]
            go_wp2_with fail
            refine HK9.out _ _ ⟨?_, nextW HW.out hi (by decide)⟩
            simp +decide only [TY, gd_same _ _ _ hi, gd_set _ _ _ _ hi, gx_same _ _ _ _ hi, gx_set _ _ _ _ _ hi]
        · rintro L a W ⟨rfl, hW⟩ hsz hall
          have h2 := hall 5 (by decide)
          have h4 := hall 4 (by decide)
          have h6 := hall 6 (by decide)
          rw [if_pos h2] at hW
          subst hW
          have hrow := setRow_heap w0.drew w.heap.size _ (gv (bs.take 16)) _ _ Z0.out.1
          have HL := Lib.hid (LV.agg (P := Try.prog) hrow Try.underlying23 rfl HI.out)
          have HBl : Hid (Below w.heap.size w (w0.drew.setRow w.heap.size (gv (bs.take 16)))) := below_setRow Z0.out.2.2 (Nat.le_refl _) _
          have e2 : ∀ v d, gx L 4 v d = v := fun v d => if_pos h4
          have e4 : ∀ v d, gx L 6 v d = v := fun v d => if_pos h6
          simp only [TY, e2, e4]
          clear hrow h2 h4 h6 e2 e4 hall hsz
          go_wp2_with fail
          refine bodyPost_ret (results_tct Try.results13 _ HL.out) rfl ?_
          exact ⟨rfl, HBl.out⟩
end Go.Proofs.Ytjcbmgpmlekamaa
