/-
  sha: the schedule, walked.
-/
import Derived.Test.YtmbkbehccmadfaaShG
import Derived.Deep.QuietTactic
import Derived.BigQuiet
namespace Go.Proofs.Ytmbkbehccmadfaa
open Go.RowKit Go
set_option linter.unusedVariables false
set_option linter.unusedSimpArgs false
set_option maxRecDepth 100000
set_option maxHeartbeats 4000000 in
theorem schedule_any (bs : List Nat) (hl : bs.length = 64) (hb : ∀ x ∈ bs, x < 256) (w : World) : Calls Try.prog 37 #[.agg (bs.map v8).toArray] w fun e w' => e = .returned (.agg ((schW bs).map v32).toArray) ∧ Below w.heap.size w w' := by
  obtain ⟨cs, hcs⟩ : ∃ cs, (bs.map v8).toArray = cs := ⟨_, rfl⟩
  have HCS := Lib.hid hcs
  rw [hcs]
  clear hcs
  have hcl := Lib.hid (firstW_len bs)
  have HF := Lib.hid (firstW_lt bs hb 16)
  have HBG := Lib.hid (getD_lt bs 256 (by decide) hb)
  have HBL := Lib.hid hl
  go_enter Try.func37, Try.ntmps37
  go_wp2
  refine wp_nm fun W0 hW0 => ?_
  have H2 : Hid (ArrIs W0 w.heap.size 36 (bs.map v8) ∧ ArrIs W0 (w.heap.size + 1) 59 (List.replicate 64 (.int .u32 0)) ∧ ArrIs W0 (w.heap.size + 1 + 1) 59 (part32 64 (firstW bs 0)) ∧ Below w.heap.size w W0) := by
    rw [← hW0]
    refine ⟨?_, ?_, ?_, kp_alloc (kp_alloc (kp_alloc (Below.refl _ _) _) _) _⟩
    · unfold ArrIs
      rw [HCS.out]
      exact has_alloc (has_alloc (has_new w _) _) _
    · exact has_alloc (has_new' _ _ _ (by simp)) _
    · exact has_new' _ _ _ (by simp)
  clear hW0 hb hl
  obtain ⟨G, hG⟩ : ∃ G, w.heap.size = G := ⟨_, rfl⟩
  have HG := Lib.hid hG
  rw [hG] at H2 ⊢
  clear hG
  go_wp2
  go_loopw [8] (fun vi wl => ∃ k : Nat, vi = .int .i64 (k : Int) ∧ k ≤ 16 ∧ Hid (ArrIs wl G 36 (bs.map v8) ∧ ArrIs wl (G + 1) 59 (List.replicate 64 (.int .u32 0)) ∧ ArrIs wl (G + 1 + 1) 59 (part32 64 (firstW bs k)) ∧ Below G w wl)) (fun vi _ => 16 - (intOf vi).toNat)
  case atStart => exact ⟨0, rfl, Nat.zero_le _, H2.out⟩
  case round =>
    obtain ⟨k, rfl, hk, HK⟩ := hrel
    clear H2
    by_cases hlt : k < 16
    · as_aux_lemma =>
      obtain ⟨a0, a1, a2, hb⟩ := HK.out
      have gb : ∀ i, i < 64 → (bs.map v8)[i]? = some (v8 (bs.getD i 0)) := fun i hi => by
        rw [List.getElem?_map, List.getD_eq_getElem?_getD, List.getElem?_eq_getElem (by rw [HBL.out]; exact hi)]
        rfl
      obtain ⟨b0, hb0⟩ : ∃ x, bs.getD (4 * k) 0 = x := ⟨_, rfl⟩
      obtain ⟨b1, hb1⟩ : ∃ x, bs.getD (4 * k + 1) 0 = x := ⟨_, rfl⟩
      obtain ⟨b2, hb2⟩ : ∃ x, bs.getD (4 * k + 2) 0 = x := ⟨_, rfl⟩
      obtain ⟨b3, hb3⟩ : ∃ x, bs.getD (4 * k + 3) 0 = x := ⟨_, rfl⟩
      have c0 : wr.cell? ⟨G, 4 * k, none⟩ = some (v8 b0) := by rw [← hb0]; exact a0.cell (gb _ (by omega))
      have c1 : wr.cell? ⟨G, 4 * k + 1, none⟩ = some (v8 b1) := by rw [← hb1]; exact a0.cell (gb _ (by omega))
      have c2 : wr.cell? ⟨G, 4 * k + 2, none⟩ = some (v8 b2) := by rw [← hb2]; exact a0.cell (gb _ (by omega))
      have c3 : wr.cell? ⟨G, 4 * k + 3, none⟩ = some (v8 b3) := by rw [← hb3]; exact a0.cell (gb _ (by omega))
      have l0 : b0 < 256 := by rw [← hb0]; exact HBG.out _
      have l1 : b1 < 256 := by rw [← hb1]; exact HBG.out _
      have l2 : b2 < 256 := by rw [← hb2]; exact HBG.out _
      have l3 : b3 < 256 := by rw [← hb3]; exact HBG.out _
      have hbe := be32_bits b0 b1 b2 b3 l0 l1 l2 l3
      obtain ⟨z, hz⟩ : ∃ z, be32 b0 b1 b2 b3 = z := ⟨_, rfl⟩
      rw [hz] at hbe
      have hfl := hcl.out k
      obtain ⟨u, hu⟩ : ∃ u, (part32 64 (firstW bs k))[k]? = some u := ⟨_, List.getElem?_eq_getElem (by rw [part32_len _ _ (by omega)]; omega)⟩
      have cc := a2.cell hu
      have ff := a2.free k
      have HN : Hid (ArrIs (wr.setCell ⟨G + 1 + 1, k, none⟩ (v32 z)) G 36 (bs.map v8) ∧ ArrIs (wr.setCell ⟨G + 1 + 1, k, none⟩ (v32 z)) (G + 1) 59 (List.replicate 64 (.int .u32 0)) ∧ ArrIs (wr.setCell ⟨G + 1 + 1, k, none⟩ (v32 z)) (G + 1 + 1) 59 (part32 64 (firstW bs (k + 1))) ∧ Below G w (wr.setCell ⟨G + 1 + 1, k, none⟩ (v32 z))) := by
        refine ⟨a0.far (by omega), a1.far (by omega), ?_, hb.setCell (by simp; omega) _⟩
        have e : firstW bs (k + 1) = firstW bs k ++ [z] := by rw [← hz, ← hb0, ← hb1, ← hb2, ← hb3]; rfl
        rw [e, part32_next 64 _ _ (by omega), hfl]
        exact a2.set k _
      have s1 : IntKind.i64.wrap (4 * (k : Int)) = 4 * (k : Int) := by rw [IntKind.wrap_i64]; omega
      have s2 : IntKind.i64.wrap (4 * (k : Int) + 1) = 4 * (k : Int) + 1 := by rw [IntKind.wrap_i64]; omega
      have s3 : IntKind.i64.wrap (4 * (k : Int) + 2) = 4 * (k : Int) + 2 := by rw [IntKind.wrap_i64]; omega
      have s4 : IntKind.i64.wrap (4 * (k : Int) + 3) = 4 * (k : Int) + 3 := by rw [IntKind.wrap_i64]; omega
      have n1 : (4 * (k : Int)).toNat = 4 * k := by omega
      have n2 : (4 * (k : Int) + 1).toNat = 4 * k + 1 := by omega
      have n3 : (4 * (k : Int) + 2).toNat = 4 * k + 2 := by omega
      have n4 : (4 * (k : Int) + 3).toNat = 4 * k + 3 := by omega
      have p1 : (0 : Int) ≤ 4 * (k : Int) := by omega
      have p2 : (0 : Int) ≤ 4 * (k : Int) + 1 := by omega
      have p3 : (0 : Int) ≤ 4 * (k : Int) + 2 := by omega
      have p4 : (0 : Int) ≤ 4 * (k : Int) + 3 := by omega
      have r1 : 4 * (k : Int) < 64 := by omega
      have r2 : 4 * (k : Int) + 1 < 64 := by omega
      have r3 : 4 * (k : Int) + 2 < 64 := by omega
      have r4 : 4 * (k : Int) + 3 < 64 := by omega
      have i1 : (k : Int) < 16 := by omega
      have i2 : (k : Int) < 64 := by omega
      clear hb0 hb1 hb2 hb3 hz hfl hu a0 a1 a2 hb gb HK
      go_wp2_with fail
      go_region
      all_goals
        clear hbe s1 s2 s3 s4 n1 n2 n3 n4
        go_wp2
        go_roundw
        case rel => exact ⟨k + 1, by go_num, by omega, HN.out.1, HN.out.2.1, HN.out.2.2.1, HN.out.2.2.2.drew⟩
        case measure => simp [intOf]; omega
    · have hk16 : k = 16 := by omega
      have i1 : ¬ (k : Int) < 16 := by omega
      have H3 : Hid (ArrIs wr G 36 (bs.map v8) ∧ ArrIs wr (G + 1) 59 (List.replicate 64 (.int .u32 0)) ∧ ArrIs wr (G + 1 + 1) 59 (part32 64 (restW (firstW bs 16) 0)) ∧ Below G w wr) := by
        have := HK.out
        rw [hk16] at this
        exact this
      clear HK hk16
      go_wp2
      go_loopw [5] (fun vi wl => ∃ t : Nat, vi = .int .i64 (t : Int) ∧ 16 ≤ t ∧ t ≤ 64 ∧ Hid (ArrIs wl G 36 (bs.map v8) ∧ ArrIs wl (G + 1) 59 (List.replicate 64 (.int .u32 0)) ∧ ArrIs wl (G + 1 + 1) 59 (part32 64 (restW (firstW bs 16) (t - 16))) ∧ Below G w wl)) (fun vi _ => 64 - (intOf vi).toNat)
      case atStart => exact ⟨16, rfl, Nat.le_refl _, by omega, H3.out⟩
      case round =>
        obtain ⟨t, rfl, ht1, ht2, HK⟩ := hrel
        clear H3
        by_cases hlt : t < 64
        · as_aux_lemma =>
          obtain ⟨q, hq⟩ : ∃ q, t - 16 = q := ⟨_, rfl⟩
          obtain ⟨a0, a1, a2, hb⟩ := HK.out
          rw [hq] at a2
          obtain ⟨l, hl⟩ : ∃ l, restW (firstW bs 16) q = l := ⟨_, rfl⟩
          have hll : l.length = t := by rw [← hl, restW_len, firstW_len]; omega
          have hlb := restW_lt (firstW bs 16) HF.out q
          rw [hl] at a2 hlb
          have gl := getD_lt l 4294967296 (by decide) hlb
          obtain ⟨x16, hx16⟩ : ∃ z, l.getD q 0 = z := ⟨_, rfl⟩
          obtain ⟨x15, hx15⟩ : ∃ z, l.getD (q + 1) 0 = z := ⟨_, rfl⟩
          obtain ⟨x7, hx7⟩ : ∃ z, l.getD (q + 9) 0 = z := ⟨_, rfl⟩
          obtain ⟨x2, hx2⟩ : ∃ z, l.getD (q + 14) 0 = z := ⟨_, rfl⟩
          have c16 : wr.cell? ⟨G + 1 + 1, q, none⟩ = some (v32 x16) := by rw [← hx16]; exact a2.cell (part32_get 64 l _ (by omega))
          have c15 : wr.cell? ⟨G + 1 + 1, q + 1, none⟩ = some (v32 x15) := by rw [← hx15]; exact a2.cell (part32_get 64 l _ (by omega))
          have c7 : wr.cell? ⟨G + 1 + 1, q + 9, none⟩ = some (v32 x7) := by rw [← hx7]; exact a2.cell (part32_get 64 l _ (by omega))
          have c2 : wr.cell? ⟨G + 1 + 1, q + 14, none⟩ = some (v32 x2) := by rw [← hx2]; exact a2.cell (part32_get 64 l _ (by omega))
          have l16 : x16 < 4294967296 := by rw [← hx16]; exact gl _
          have l15 : x15 < 4294967296 := by rw [← hx15]; exact gl _
          have l7 : x7 < 4294967296 := by rw [← hx7]; exact gl _
          have l2 : x2 < 4294967296 := by rw [← hx2]; exact gl _
          obtain ⟨u, hu⟩ : ∃ u, (part32 64 l)[t]? = some u := ⟨_, List.getElem?_eq_getElem (by rw [part32_len _ _ (by omega)]; omega)⟩
          have cc := a2.cell hu
          have ff := a2.free t
          obtain ⟨z, hz⟩ : ∃ z, nxtW x16 x15 x7 x2 = z := ⟨_, rfl⟩
          have HN : Hid (ArrIs (wr.setCell ⟨G + 1 + 1, t, none⟩ (v32 z)) G 36 (bs.map v8) ∧ ArrIs (wr.setCell ⟨G + 1 + 1, t, none⟩ (v32 z)) (G + 1) 59 (List.replicate 64 (.int .u32 0)) ∧ ArrIs (wr.setCell ⟨G + 1 + 1, t, none⟩ (v32 z)) (G + 1 + 1) 59 (part32 64 (restW (firstW bs 16) (t + 1 - 16))) ∧ Below G w (wr.setCell ⟨G + 1 + 1, t, none⟩ (v32 z))) := by
            refine ⟨a0.far (by omega), a1.far (by omega), ?_, hb.setCell (by simp; omega) _⟩
            have e : restW (firstW bs 16) (t + 1 - 16) = l ++ [z] := by
              rw [show t + 1 - 16 = q + 1 by omega, ← hz, ← hx16, ← hx15, ← hx7, ← hx2, ← hl]
              rfl
            rw [e, part32_next 64 _ _ (by omega), hll]
            exact a2.set t _
          obtain ⟨g0, hg0⟩ : ∃ z, sg0 x15 = z := ⟨_, rfl⟩
          obtain ⟨g1, hg1⟩ : ∃ z, sg1 x2 = z := ⟨_, rfl⟩
          have b0 := sg0_bits x15 l15
          have b1 := sg1_bits x2 l2
          have lg0 := sg0_lt x15 l15
          have lg1 := sg1_lt x2 l2
          rw [hg0] at b0 lg0
          rw [hg1] at b1 lg1
          have hz2 : (((x16 + g0) % 4294967296 + x7) % 4294967296 + g1) % 4294967296 = z := by rw [← hz, ← hg0, ← hg1]; rfl
          have R7 := Lib.hid (fun W => rot_7 x15 l15 W)
          have R18 := Lib.hid (fun W => rot_18 x15 l15 W)
          have R17 := Lib.hid (fun W => rot_17 x2 l2 W)
          have R19 := Lib.hid (fun W => rot_19 x2 l2 W)
          obtain ⟨o7, ho7⟩ : ∃ z, rotr x15 7 = z := ⟨_, rfl⟩
          obtain ⟨o18, ho18⟩ : ∃ z, rotr x15 18 = z := ⟨_, rfl⟩
          obtain ⟨o17, ho17⟩ : ∃ z, rotr x2 17 = z := ⟨_, rfl⟩
          obtain ⟨o19, ho19⟩ : ∃ z, rotr x2 19 = z := ⟨_, rfl⟩
          rw [ho7] at R7 b0
          rw [ho18] at R18 b0
          rw [ho17] at R17 b1
          rw [ho19] at R19 b1
          obtain ⟨za, hza⟩ : ∃ z, (x16 + g0) % 4294967296 = z := ⟨_, rfl⟩
          obtain ⟨zb, hzb⟩ : ∃ z, (za + x7) % 4294967296 = z := ⟨_, rfl⟩
          rw [hza, hzb] at hz2
          have wa : IntKind.u32.wrap ((x16 : Int) + (g0 : Int)) = (za : Int) := by rw [IntKind.wrap_u32]; omega
          have wb : IntKind.u32.wrap ((za : Int) + (x7 : Int)) = (zb : Int) := by rw [IntKind.wrap_u32]; omega
          have wc : IntKind.u32.wrap ((zb : Int) + (g1 : Int)) = (z : Int) := by rw [IntKind.wrap_u32]; omega
          have wa2 : ((x16 : Int) + (g0 : Int)) % 4294967296 = (za : Int) := by omega
          have wb2 : ((za : Int) + (x7 : Int)) % 4294967296 = (zb : Int) := by omega
          have wc2 : ((zb : Int) + (g1 : Int)) % 4294967296 = (z : Int) := by omega
          have t16 : (t : Int) - 16 = (q : Int) := by omega
          obtain ⟨q1, hq1⟩ : ∃ z, q + 1 = z := ⟨_, rfl⟩
          obtain ⟨q9, hq9⟩ : ∃ z, q + 9 = z := ⟨_, rfl⟩
          obtain ⟨q14, hq14⟩ : ∃ z, q + 14 = z := ⟨_, rfl⟩
          rw [hq1] at c15
          rw [hq9] at c7
          rw [hq14] at c2
          have t15 : (t : Int) - 15 = (q1 : Int) := by omega
          have t7 : (t : Int) - 7 = (q9 : Int) := by omega
          have t2 : (t : Int) - 2 = (q14 : Int) := by omega
          have n1 : (q : Int) < 64 := by omega
          have n2 : (q1 : Int) < 64 := by omega
          have n3 : (q9 : Int) < 64 := by omega
          have n4 : (q14 : Int) < 64 := by omega
          have i2 : (t : Int) < 64 := by omega
          have v1 : IntKind.i64.wrap (q : Int) = (q : Int) := by rw [IntKind.wrap_i64]; omega
          have v2 : IntKind.i64.wrap (q1 : Int) = (q1 : Int) := by rw [IntKind.wrap_i64]; omega
          have v3 : IntKind.i64.wrap (q9 : Int) = (q9 : Int) := by rw [IntKind.wrap_i64]; omega
          have v4 : IntKind.i64.wrap (q14 : Int) = (q14 : Int) := by rw [IntKind.wrap_i64]; omega
          clear hq hl hll hlb gl hx16 hx15 hx7 hx2 hu hz hg0 hg1 hz2 ho7 ho18 ho17 ho19 hza hzb hq1 hq9 hq14 a0 a1 a2 hb HK
          go_wp2_with fail
          go_quiet (fail)
          have d16 : (wr.drewN nq).cell? ⟨G + 1 + 1, q, none⟩ = some (.int .u32 (x16 : Int)) := c16
          have d7 : (wr.drewN nq).cell? ⟨G + 1 + 1, q9, none⟩ = some (.int .u32 (x7 : Int)) := c7
          have dc : (wr.drewN nq).cell? ⟨G + 1 + 1, t, none⟩ = some u := cc
          have df : (wr.drewN nq).frozen? ⟨G + 1 + 1, t, none⟩ = false := ff
          have HM : Hid (∀ j : Nat, ArrIs (((wr.drewN nq).drewN j).setCell ⟨G + 1 + 1, t, none⟩ (.int .u32 (z : Int))) G 36 (bs.map v8) ∧ ArrIs (((wr.drewN nq).drewN j).setCell ⟨G + 1 + 1, t, none⟩ (.int .u32 (z : Int))) (G + 1) 59 (List.replicate 64 (.int .u32 0)) ∧ ArrIs (((wr.drewN nq).drewN j).setCell ⟨G + 1 + 1, t, none⟩ (.int .u32 (z : Int))) (G + 1 + 1) 59 (part32 64 (restW (firstW bs 16) (t + 1 - 16))) ∧ Below G w (((wr.drewN nq).drewN j).setCell ⟨G + 1 + 1, t, none⟩ (.int .u32 (z : Int)))) := fun j =>
            ⟨HN.out.1, HN.out.2.1, HN.out.2.2.1, ⟨HN.out.2.2.2.os, HN.out.2.2.2.tape, HN.out.2.2.2.output, HN.out.2.2.2.size, HN.out.2.2.2.block⟩⟩
          clear c16 c15 c7 c2 cc ff t15 t2 HN
          generalize wr.drewN nq = w2 at *
          go_wp2_with fail
          go_region_held3 (fun W => W.cell? ⟨G + 1 + 1, q, none⟩ = some (.int .u32 (x16 : Int)) ∧ W.cell? ⟨G + 1 + 1, q9, none⟩ = some (.int .u32 (x7 : Int))) (first | exact ⟨d16, d7⟩ | exact ⟨(World.cell?_setCell_other _ _ _ _ (by intro e; simp only [Addr.mk.injEq] at e; omega)).trans d16, (World.cell?_setCell_other _ _ _ _ (by intro e; simp only [Addr.mk.injEq] at e; omega)).trans d7⟩)
            (first
              | (go_at_call 38; (with_reducible refine (R7.out _).mono ?_); (rintro e w3 ⟨rfl, rfl⟩))
              | (go_at_call 38; (with_reducible refine (R18.out _).mono ?_); (rintro e w3 ⟨rfl, rfl⟩))
              | (go_at_call 38; (with_reducible refine (R17.out _).mono ?_); (rintro e w3 ⟨rfl, rfl⟩))
              | (go_at_call 38; (with_reducible refine (R19.out _).mono ?_); (rintro e w3 ⟨rfl, rfl⟩)))
          all_goals
            have HMM := Lib.hid (HM.out 0)
            clear HM b0 b1 wa wb wc wa2 wb2 wc2 t16 t7 v1 v2 v3 v4 d16 d7 dc df
            go_wp2
            go_roundw
            case rel => exact ⟨t + 1, by go_num, by omega, by omega, HMM.out.1, HMM.out.2.1, HMM.out.2.2.1, ⟨HMM.out.2.2.2.os, HMM.out.2.2.2.tape, HMM.out.2.2.2.output, HMM.out.2.2.2.size, HMM.out.2.2.2.block⟩⟩
            case measure => simp [intOf]; omega
        · as_aux_lemma =>
          obtain ⟨a0, a1, a2, hb⟩ := HK.out
          have i2 : ¬ (t : Int) < 64 := by omega
          have hsl : (schW bs).length = 64 := by unfold schW; rw [restW_len, firstW_len]
          have a2 : ArrIs wr (G + 1 + 1) 59 ((schW bs).map v32) := by
            rw [show t - 16 = 48 by omega] at a2
            rw [← part32_full 64 _ hsl]
            exact a2
          obtain ⟨ds, hds⟩ : ∃ ds, ((schW bs).map v32).toArray = ds := ⟨_, rfl⟩
          have hone : ds.all (·.oneCell') = true := by rw [← hds]; exact all32 _
          have hsz : ds.size = 64 := by rw [← hds]; simp [hsl]
          have hi : (Try.prog.info? 59).map (·.size) = some ds.size := by rw [hsz]; kernel_rfl
          have A1 : Hid (wr.heap[G + 1 + 1]? = some (.cells ds 59 (0, 0))) := by rw [← hds]; exact a2
          have A0 : Hid (wr.heap[G + 1]? = some (.cells (List.replicate 64 (.int .u32 0)).toArray 59 (0, 0))) := a1
          have AR : Hid ((wr.setRow (G + 1) ds).heap[G + 1]? = some (.cells ds 59 (0, 0))) := setRow_heap wr _ _ _ _ _ a1
          have HB := Lib.hid (below_setRow hb (Nat.le_succ G) ds)
          have HDS := Lib.hid hds
          have HC := Lib.hid (show _ ∧ _ ∧ _ from ⟨hsz, hone, hi⟩)
          clear hds a0 a1 a2 hb hsz hone hi HK hsl
          go_wp2_with (first
            | (refine wpList_load_row rfl _ _ rfl (G + 1 + 1) rfl _ _ _ _ A1.out Try.underlying59 rfl HC.out.2.2 ?_)
            | (refine wpList_store_row rfl _ _ _ rfl (G + 1) ds rfl rfl _ _ A0.out HC.out.2.2 (by rw [HC.out.1]; simp) HC.out.2.1 ?_))
          refine bodyPost_ret (results_cell_row rfl _ _ (G + 1) _ _ _ _ rfl AR.out Try.underlying59 rfl HC.out.2.2) rfl ?_
          exact ⟨by rw [HDS.out], by rw [HG.out]; exact HB.out⟩
end Go.Proofs.Ytmbkbehccmadfaa
