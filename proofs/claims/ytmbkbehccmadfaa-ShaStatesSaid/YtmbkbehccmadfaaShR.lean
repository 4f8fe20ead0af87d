/-
  sha: (*State).Sum.
-/
import Derived.Test.YtmbkbehccmadfaaShR1
import Derived.Test.YtmbkbehccmadfaaShN
import Derived.Deep.QuietTactic
import Derived.BigQuiet
import Derived.BigRegion
import Derived.Laws.Tables
import Derived.Laws.CopyOwn
namespace Go.Proofs.Ytmbkbehccmadfaa
open Go.RowKit Go
set_option linter.unusedVariables false
set_option linter.unusedSimpArgs false
set_option maxRecDepth 100000
theorem size_state : (Try.prog.info? 39).map (·.size) = some 75 := by kernel_rfl
theorem size_32 : (Try.prog.info? 25).map (·.size) = some 32 := by kernel_rfl
theorem zero_state (w : World) : (zeroValue 39).run Try.prog w = .ok (.agg zeroState.toArray) w := by kernel_rfl
set_option maxHeartbeats 4000000 in
theorem stsum_any (S : Nat) (p : List Nat) (t : Nat) (w : World) (hH : Holds w S p t) (ht : t < 18446744073709551616) :
    Calls Try.prog 18 #[.pointer (some ⟨S, 0, none⟩)] w fun e w' => e = .returned (.agg ((sumQ p t).map v8).toArray) ∧ Below w.heap.size w w' := by
  obtain ⟨vs, hr, hvs, hone, c73, hmk⟩ := hH.row
  obtain ⟨B, hB⟩ : ∃ B, w.heap.size = B := ⟨_, rfl⟩
  have hS : S < B := by rw [← hB]; exact hH.lt
  obtain ⟨u, hu⟩ : ∃ u, hashN H0v (p ++ padQ t) ((p ++ padQ t).length / 64) = u := ⟨_, rfl⟩
  have HU := Lib.hid hu
  have HR := Lib.hid (fun o => has_alloc hr o)
  have hif : (Try.prog.info? 39).map (·.size) = some vs.size := by rw [hvs]; exact size_state
  have HV := Lib.hid (show _ ∧ _ ∧ _ ∧ _ from ⟨hvs, hone, hif, hmk⟩)
  have HH := Lib.hid hH
  clear hr hvs hone hmk hH hif hu c73
  obtain ⟨zs, hzs⟩ : ∃ zs, zeroState.toArray = zs := ⟨_, rfl⟩
  have hz := zero_state
  rw [hzs] at hz
  have HZ : Hid (zs.size = 75) := by rw [← hzs]; rfl
  clear hzs
  go_enter Try.func18, Try.ntmps18
  go_upto_region 4 with (first
    | (refine wpList_load_row rfl _ _ rfl S rfl _ vs _ _ (HR.out _) Try.underlying39 rfl HV.out.2.2.1 ?_)
    | (refine wpList_store_row rfl _ _ _ rfl (B + 1) vs rfl rfl _ _ (has_new' _ _ _ (by simp [hB])) HV.out.2.2.1 (by rw [HV.out.1, HZ.out]) HV.out.2.1 ?_))
  refine wp_nm fun W2 hW2 => ?_
  have hb2 : Below w.heap.size w W2 := by rw [← hW2]; exact below_setRow (kp_alloc (kp_alloc (Below.refl _ _) _) _) (by omega) _
  have k0 : ArrIs W2 B 25 (part8 32 []) := by
    rw [← hW2]
    unfold ArrIs
    rw [setRow_other _ _ _ _ (by omega)]
    exact has_alloc (has_new' _ _ _ hB.symm) _
  have k1 : Holds W2 (B + 1) p t := by
    refine HV.out.2.2.2 W2 (B + 1) ?_
    rw [← hW2]
    exact setRow_heap _ (B + 1) _ _ _ _ (has_new' _ _ _ (by simp [hB]))
  have hz2 : B + 1 < W2.heap.size := k1.lt
  have c73 := (HH.out.below hb2).row
  obtain ⟨_, _, _, _, c73, _⟩ := c73
  have H2 : Hid (Below w.heap.size w W2 ∧ ArrIs W2 B 25 (part8 32 []) ∧ Holds W2 (B + 1) p t) := ⟨hb2, k0, k1⟩
  have PA := Lib.hid (padding_any t ht W2)
  obtain ⟨n, hn⟩ : ∃ n, zerosQ t + 9 = n := ⟨_, rfl⟩
  have hnl : n ≤ 73 := by rw [← hn]; unfold zerosQ; omega
  obtain ⟨B2, hB2⟩ : ∃ B2, W2.heap.size = B2 := ⟨_, rfl⟩
  rw [hn, hB2] at PA
  have HN := Lib.hid hn
  clear hb2 k0 k1 hW2 HR HV hz hn HZ HH
  go_wp2_with fail
  refine PA.out.mono ?_
  rintro e w3 ⟨rfl, hown, hb3⟩
  obtain ⟨h21, h22, h23⟩ := H2.out
  rw [hB2] at hz2
  have hb3' : Below W2.heap.size W2 w3 := by rw [hB2]; exact hb3
  have hsrc : Src w3 (B + 1) (some ⟨B2, 0, none⟩) (padB t) := Src.of_bs hown.reads (Nat.le_refl _) (fun b off e => by injection e with e; injection e with e1; omega)
  have WA := Lib.hid (write_any (B + 1) (some ⟨B2, 0, none⟩) n n p t (padB t) w3 (h23.below hb3') hsrc hown.len (by omega) (Nat.le_refl _) (by omega) ht)
  rw [padB_nat] at WA
  have H3 : Hid (Below w.heap.size w w3 ∧ ArrIs w3 B 25 (part8 32 [])) := ⟨kp_call h21 hb3', h22.below hb3'⟩
  clear h21 h22 h23 hb3 hb3' hsrc hown PA H2 c73
  go_wp2_with fail
  refine WA.out.mono ?_
  rintro e w4 ⟨rfl, ho4, hg4⟩
  obtain ⟨h31, h32⟩ := H3.out
  obtain ⟨rb, hA, _⟩ := ho4
  rw [HU.out] at hA
  have hbw4 := below_of_grown h31 hg4 (by omega)
  have hk4 : ArrIs w4 B 25 (part8 32 []) := (hg4.block B h32.lt (by intro e; injection e with e; omega)).trans h32
  obtain ⟨us, hus⟩ : ∃ us, (u.list.map v32).toArray = us := ⟨_, rfl⟩
  have hul : us.toList = u.list.map v32 := by rw [← hus]
  have hsz : us.size = 8 := by rw [← hus]; rfl
  have hif : (Try.prog.info? 34).map (·.size) = some us.size := by rw [hsz]; exact size_words
  have RG := Lib.hid (fun o => rangeAt_alloc (o := 0) (cs := us.toList) (by rw [hul]; exact st_sum hA) hA.lt o)
  obtain ⟨B4, hB4⟩ : ∃ B4, w4.heap.size = B4 := ⟨_, rfl⟩
  have hBB : B + 1 < B4 := by rw [← hB4]; exact hA.lt
  have H4 : Hid (Below w.heap.size w (w4.alloc (.cells (part8 32 []).toArray 25)) ∧ ArrIs (w4.alloc (.cells (part8 32 []).toArray 25)) B 25 (part8 32 []) ∧ ArrIs (w4.alloc (.cells (part8 32 []).toArray 25)) B4 25 (part8 32 (dig u (4 * 0)))) := ⟨kp_alloc hbw4 _, has_alloc hk4 _, has_new' _ _ _ hB4.symm⟩
  have HUS := Lib.hid (show _ ∧ _ from ⟨hul, hif⟩)
  clear h31 h32 hA hg4 hbw4 hk4 hus hul hsz hif WA H3 HN hnl hz2 hB2
  go_wp2_with (refine wpList_load_arr rfl _ _ rfl (B + 1) 0 rfl us _ (RG.out _) Try.underlying34 rfl HUS.out.2 ?_)
  clear RG
  go_loopw [22] (fun vi wl => ∃ i : Nat, vi = .int .i64 (i : Int) ∧ i ≤ 8 ∧ Hid (Below w.heap.size w wl ∧ ArrIs wl B 25 (part8 32 []) ∧ ArrIs wl B4 25 (part8 32 (dig u (4 * i))))) (fun vi _ => 8 - (intOf vi).toNat)
  case atStart => exact ⟨0, rfl, Nat.zero_le _, H4.out⟩
  case round =>
    obtain ⟨i, rfl, hi, HK⟩ := hrel
    clear H4
    by_cases hlt : i < 8
    · obtain ⟨x, hx⟩ : ∃ x, u.list[i]? = some x := ⟨_, List.getElem?_eq_getElem (by show i < 8; exact hlt)⟩
      have hix : ∀ W, (Instr.index 34 (.agg us) (.int .i64 (i : Int))).run Try.prog W = .ok (.int .u32 (x : Int)) W := fun W => index_u32 us i x hlt (by rw [← Array.getElem?_toList, HUS.out.1]; simp [hx]) W
      have HX := Lib.hid hx
      have i1 : (i : Int) < 8 := by omega
      clear hx
      go_wp2_with fail
      go_loopw [26] (fun vj wl => ∃ j : Nat, vj = .int .i64 (j : Int) ∧ j ≤ 4 ∧ Hid (Below w.heap.size w wl ∧ ArrIs wl B 25 (part8 32 []) ∧ ArrIs wl B4 25 (part8 32 (dig u (4 * i + j))))) (fun vj _ => 4 - (intOf vj).toNat)
      case atStart => exact ⟨0, rfl, Nat.zero_le _, HK.out⟩
      case round =>
        obtain ⟨j, rfl, hj, HJ⟩ := hrel
        clear HK
        by_cases hlj : j < 4
        · obtain ⟨q1, q2, q3⟩ := HJ.out
          obtain ⟨m, hm⟩ : ∃ m, 4 * i + j = m := ⟨_, rfl⟩
          have hml : m < 32 := by omega
          have hdl : (dig u m).length = m := dig_len u m
          rw [hm] at q3
          obtain ⟨b0, hb0⟩ : ∃ b0, (part8 32 (dig u m))[m]? = some b0 := ⟨_, List.getElem?_eq_getElem (by rw [part8_len 32 _ (by omega)]; exact hml)⟩
          have c0 := q3.cell hb0
          have f0 := q3.free m
          have hsh := run_shr24 x j hlj
          have hnb : IntKind.u8.wrap ((x : Int) / 2 ^ (24 - 8 * j)) = ((digB u m : Nat) : Int) := by rw [← hm, digB_at u i j x hlj HX.out]; exact dig_num x j
          have HN : Hid (Below w.heap.size w (wr.setCell ⟨B4, m, none⟩ (v8 (digB u m))) ∧ ArrIs (wr.setCell ⟨B4, m, none⟩ (v8 (digB u m))) B 25 (part8 32 []) ∧ ArrIs (wr.setCell ⟨B4, m, none⟩ (v8 (digB u m))) B4 25 (part8 32 (dig u (m + 1)))) := by
            refine ⟨kp_set q1 (by omega), q2.far (by omega), ?_⟩
            have q4 := q3.set m (v8 (digB u m))
            rw [dig_next, part8_next 32 _ _ (by rw [hdl]; exact hml), hdl]
            exact q4
          have e1 : IntKind.i64.wrap (4 * (i : Int)) = 4 * (i : Int) := IntWalk.i64_in _ (by omega)
          have e2 : IntKind.i64.wrap (4 * (i : Int) + (j : Int)) = (m : Int) := by rw [IntWalk.i64_in _ (by omega)]; omega
          have e2' : 4 * (i : Int) + (j : Int) = (m : Int) := by omega
          have e3 : IntKind.i64.wrap (8 * (j : Int)) = 8 * (j : Int) := IntWalk.i64_in _ (by omega)
          have e4 : IntKind.i64.wrap (24 - 8 * (j : Int)) = 24 - 8 * (j : Int) := IntWalk.i64_in _ (by omega)
          have i2 : (j : Int) < 4 := by omega
          have i3 : (m : Int) < 32 := by omega
          have HM := Lib.hid hm
          clear q1 q2 q3 hb0 HJ hdl hix hm
          go_wp2
          go_roundw
          case rel => exact ⟨j + 1, by go_num, by omega, by rw [show 4 * i + (j + 1) = m + 1 by have := HM.out; omega]; exact HN.out⟩
          case measure => simp [intOf]; omega
        · have i2 : ¬ (j : Int) < 4 := by omega
          have hj4 : j = 4 := by omega
          subst hj4
          clear hix
          go_wp2
          go_roundw
          case rel => exact ⟨i + 1, by go_num, by omega, HJ.out⟩
          case measure => simp [intOf]; omega
    · obtain ⟨q1, q2, q3⟩ := HK.out
      have hi8 : i = 8 := by omega
      subst hi8
      have i1 : ¬ ((8 : Nat) : Int) < 8 := by omega
      rw [part8_full 32 _ (dig_len u _)] at q3
      obtain ⟨ds, hds⟩ : ∃ ds, ((dig u 32).map v8).toArray = ds := ⟨_, rfl⟩
      have hone : ds.all (·.oneCell') = true := by rw [← hds]; exact all8 _
      have hsz : ds.size = 32 := by rw [← hds]; simp [dig_len]
      have hif : (Try.prog.info? 25).map (·.size) = some ds.size := by rw [hsz]; exact size_32
      have A1 : Hid (wr.heap[B4]? = some (.cells ds 25 (0, 0))) := by rw [← hds]; exact q3
      have A0 : Hid (wr.heap[B]? = some (.cells (part8 32 []).toArray 25 (0, 0))) := q2
      have AR : Hid ((wr.setRow B ds).heap[B]? = some (.cells ds 25 (0, 0))) := setRow_heap wr _ _ _ _ _ q2
      have HBW := Lib.hid (below_setRow q1 (show w.heap.size ≤ B by omega) ds)
      have HDS : Hid (ds = ((sumQ p t).map v8).toArray) := by unfold sumQ; rw [HU.out]; exact hds.symm
      have HC := Lib.hid (show _ ∧ _ ∧ _ from ⟨hsz, hone, hif⟩)
      clear hds q1 q2 q3 hsz hone hif HK
      go_wp2_with (first
        | (refine wpList_load_row rfl _ _ rfl B4 rfl _ _ _ _ A1.out Try.underlying25 rfl HC.out.2.2 ?_)
        | (refine wpList_store_row rfl _ _ _ rfl B ds rfl rfl _ _ A0.out HC.out.2.2 (by rw [HC.out.1]; rfl) HC.out.2.1 ?_))
      refine bodyPost_ret (results_cell_row rfl _ _ B _ _ _ _ rfl AR.out Try.underlying25 rfl HC.out.2.2) rfl ?_
      exact ⟨by rw [HDS.out], by have := HBW.out; rw [hB] at this; exact this⟩
end Go.Proofs.Ytmbkbehccmadfaa
