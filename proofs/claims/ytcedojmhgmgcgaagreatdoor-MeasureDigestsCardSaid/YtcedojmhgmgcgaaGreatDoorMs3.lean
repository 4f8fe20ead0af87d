/-
  sha: the document's block.
-/
import Derived.Test.YtcedojmhgmgcgaaGreatDoorMs2
import Derived.Deep.QuietTactic
import Derived.BigQuiet
import Derived.BigRegion
import Derived.Great.BuildSlice
namespace Go.Proofs.YtcedojmhgmgcgaaGreatDoor
open Go.RowKit Go
set_option linter.unusedVariables false
set_option linter.unusedSimpArgs false
set_option maxRecDepth 100000
theorem cells_all {w : World} {A : Option Addr} {l : List Nat} (h : ReadR w A (l.map v32)) (hl : l ≠ []) : ∃ b off, A = some ⟨b, off, none⟩ ∧ b < w.heap.size ∧ ∀ W, Below w.heap.size w W → ∀ j, j < l.length → W.cell? ⟨b, off + j, none⟩ = some (.int .u32 ((l.getD j 0 : Nat) : Int)) := by
  obtain ⟨b, off, e, hb, hc⟩ := h (by intro e; exact hl (List.map_eq_nil_iff.1 e))
  refine ⟨b, off, e, hb, fun W hW j hj => ?_⟩
  rw [hW.cell (p := ⟨b, off + j, none⟩) hb]
  exact hc j _ (by rw [List.getElem?_map, List.getElem?_eq_getElem hj, List.getD_eq_getElem?_getD, List.getElem?_eq_getElem hj]; rfl)
def addAt (h v : V8) (i : Nat) : List Nat := (addV h v).list.take i ++ List.replicate (8 - i) 0
theorem addAt_next (h v : V8) (i : Nat) (hi : i < 8) : (addAt h v i).set i ((h.list.getD i 0 + v.list.getD i 0) % 4294967296) = addAt h v (i + 1) := by
  match i, hi with
  | 0, _ => rfl
  | 1, _ => rfl
  | 2, _ => rfl
  | 3, _ => rfl
  | 4, _ => rfl
  | 5, _ => rfl
  | 6, _ => rfl
  | 7, _ => rfl
theorem list_lt (h : V8) (ho : h.Ok) : ∀ x ∈ h.list, x < 4294967296 := by
  obtain ⟨a, b, c, d, e, f, g, k⟩ := ho
  intro x hx
  unfold V8.list at hx
  simp only [List.mem_cons, List.not_mem_nil, or_false] at hx
  rcases hx with rfl | rfl | rfl | rfl | rfl | rfl | rfl | rfl <;> assumption
theorem fill8 (a0 a1 a2 a3 a4 a5 a6 a7 : Int) : Instr.fill (fun i => some (i * 1, 1)) ((Array.range (8 * 1)).map ((Value.int .u32 0).cells[· % (Value.int .u32 0).cells.size]!)) [(0, .int .u32 a0), (1, .int .u32 a1), (2, .int .u32 a2), (3, .int .u32 a3), (4, .int .u32 a4), (5, .int .u32 a5), (6, .int .u32 a6), (7, .int .u32 a7)] = some #[.int .u32 a0, .int .u32 a1, .int .u32 a2, .int .u32 a3, .int .u32 a4, .int .u32 a5, .int .u32 a6, .int .u32 a7] := by kernel_rfl
theorem step_bs8 {ops : Array Oper} {o : Oper} {a : Act} {w : World} {K : Act → World → Prop} {Q : Exit → Act → World → Prop} {E : Prop} (hg : o.guard = none) (x0 x1 x2 x3 x4 x5 x6 x7 : Operand) (ho : o.op = .buildSlice 101 8 #[(0, x0), (1, x1), (2, x2), (3, x3), (4, x4), (5, x5), (6, x6), (7, x7)]) (a0 a1 a2 a3 a4 a5 a6 a7 : Int)
    (h0 : a.eval x0 = .int .u32 a0) (h1 : a.eval x1 = .int .u32 a1) (h2 : a.eval x2 = .int .u32 a2) (h3 : a.eval x3 = .int .u32 a3) (h4 : a.eval x4 = .int .u32 a4) (h5 : a.eval x5 = .int .u32 a5) (h6 : a.eval x6 = .int .u32 a6) (h7 : a.eval x7 = .int .u32 a7)
    (h : K (a.put o.dst (.slice (some ⟨w.heap.size, 0, none⟩) 8 8)) (w.alloc (.cells #[.int .u32 a0, .int .u32 a1, .int .u32 a2, .int .u32 a3, .int .u32 a4, .int .u32 a5, .int .u32 a6, .int .u32 a7] 26))) : if Region.wanted o (yielded ops a.tmps) = true then Oper.wp Tryz.prog o a w K Q else E := by
  have hw : Region.wanted o (yielded ops a.tmps) = true := by simp [Region.wanted, hg]
  rw [if_pos hw]
  obtain ⟨i, hi, hz0, hz1, hz2⟩ := info_parts u32_row.info
  refine wp_buildSlice 101 26 8 _ ho #[.int .u32 a0, .int .u32 a1, .int .u32 a2, .int .u32 a3, .int .u32 a4, .int .u32 a5, .int .u32 a6, .int .u32 a7] i (.int .u32 0) u32_row.und hi hz0 (by rw [hz1]; decide) (by rw [hz1]; decide) ?_ h
  rw [hz1]
  simp only [List.map_toArray, List.map_cons, List.map_nil, h0, h1, h2, h3, h4, h5, h6, h7]
  exact fill8 a0 a1 a2 a3 a4 a5 a6 a7
set_option maxHeartbeats 16000000 in
theorem dblock_any (HA KA BA : Option Addr) (ch ck nb cb : Nat) (hq0 : V8) (ks : List Nat) (bs : List UInt8) (w : World) (hH : ReadR w HA (hq0.list.map v32)) (hok : hq0.Ok) (hK : ReadR w KA (ks.map v32)) (hkl : ks.length = 64) (hkb : ∀ x ∈ ks, x < 4294967296) (hB : RB w BA nb bs) (hnb : nb = 64) :
    Calls Tryz.prog 49 #[.slice HA 8 ch, .slice KA 64 ck, .slice BA nb cb] w fun e w' => ∃ g, e = .returned (.slice (some ⟨g, 0, none⟩) 8 8) ∧ OwnU w' w.heap.size (some ⟨g, 0, none⟩) 8 8 ((blockW hq0 ks (bs.map UInt8.toNat)).list) ∧ Below w.heap.size w w' := by
  have SA := Lib.hid (dschedule_any BA nb cb bs w hB hnb)
  obtain ⟨bn, hbn⟩ : ∃ bn, bs.map UInt8.toNat = bn := ⟨_, rfl⟩
  have hbl2 : ∀ x ∈ bn, x < 256 := by rw [← hbn]; exact fun x hx => by obtain ⟨y, _, rfl⟩ := List.mem_map.1 hx; exact y.toNat_lt
  rw [hbn] at SA ⊢
  have HH := Lib.hid hH
  have HKR := Lib.hid hK
  have HKS := Lib.hid (And.intro hkl hkb)
  have HOK := Lib.hid hok
  clear hB hbn hH hK hkl hkb hok hnb
  go_enter Tryz.func49, Tryz.ntmps49
  go_wp2_with fail
  refine SA.out.mono ?_
  rintro e w1 ⟨AW, cw, rfl, hown, hb1⟩
  obtain ⟨ws, hws⟩ : ∃ ws, schW bn = ws := ⟨_, rfl⟩
  have hwl : ws.length = 64 := by rw [← hws]; unfold schW; rw [restW_len, firstW_len]
  have hwb : ∀ x ∈ ws, x < 4294967296 := by rw [← hws]; exact restW_lt _ (firstW_lt bn hbl2 16) 48
  have HWS := Lib.hid (show _ ∧ _ ∧ _ from ⟨hwl, hwb, hws⟩)
  rw [hws] at hown
  obtain ⟨bw, ow, rfl, _, hcw⟩ := cells_all (OwnR.reads hown) (by intro e; rw [e] at hwl; cases hwl)
  obtain ⟨bk, ok, rfl, _, hck⟩ := cells_all (HKR.out.below hb1 (Nat.le_refl _)) (by intro e; have := HKS.out.1; rw [e] at this; cases this)
  obtain ⟨bh, oh, rfl, _, hch⟩ := cells_all (HH.out.below hb1 (Nat.le_refl _)) (by intro e; cases e)
  obtain ⟨G, hG⟩ : ∃ G, w1.heap.size = G := ⟨_, rfl⟩
  rw [hG] at hcw hck hch
  have HCW := Lib.hid hcw
  have HCK := Lib.hid hck
  have HCH := Lib.hid hch
  have HB1 : Hid (Below w.heap.size w w1 ∧ w.heap.size ≤ G) := ⟨hb1, by have := hb1.size; omega⟩
  have hnews : ∀ (j : Nat) (u : Value), (hq0.list.map v32)[j]? = some u → w1.cell? ((⟨bh, oh, none⟩ : Addr).add j) = some u := fun j u hu => by
    have hj : j < 8 := by
      rcases Nat.lt_or_ge j 8 with h1 | h1
      · exact h1
      · rw [List.getElem?_eq_none (by simpa [V8.list] using h1)] at hu; cases hu
    have := hch w1 (by rw [← hG]; exact Below.refl _ _) j hj
    rw [show (⟨bh, oh, none⟩ : Addr).add j = ⟨bh, oh + j, none⟩ by unfold Addr.add; split <;> simp_all, this, ← hu, List.getElem?_map, List.getElem?_eq_getElem hj, List.getD_eq_getElem?_getD, List.getElem?_eq_getElem hj]
    rfl
  have HNW := Lib.hid hnews
  clear SA hown hb1 hwl hwb hws hcw hck hch hnews HH HKR hbl2
  go_wp2_with (at_builtin; refine wpList_appR u32_row _ _ rfl rfl rfl G none 0 0 [] rfl (OwnR.nil _ _ _ _) ⟨bh, oh, none⟩ 8 ch (hq0.list.map v32) rfl rfl HNW.out (by intro u hu; obtain ⟨x, _, rfl⟩ := List.mem_map.1 hu; rfl) (by unfold maxLen; omega) (by omega) (by omega) ?_)
  intro V2 c2 w2 hown2 hg2
  have H2 : Hid (OwnU w2 G V2 8 c2 (goW hq0 ks ws 0).list ∧ Below G w1 w2) := ⟨hown2, by rw [← hG]; exact (Below.refl _ _).grown hg2 (Nat.le_refl _) (fun g hg => by cases hg)⟩
  clear hown2 hg2 HNW
  go_wp2_with fail
  go_loopw [8, 9] (fun vv vi wl => ∃ (t : Nat) (V : Option Addr) (cv : Nat), vv = .slice V 8 cv ∧ vi = .int .i64 (t : Int) ∧ t ≤ 64 ∧ Hid (OwnU wl G V 8 cv (goW hq0 ks ws t).list ∧ Below G w1 wl)) (fun _ vi _ => 64 - (intOf vi).toNat)
  case atStart => exact ⟨0, V2, c2, rfl, rfl, Nat.zero_le _, H2.out⟩
  case round =>
    obtain ⟨t, V, cv, rfl, rfl, ht, HK⟩ := hrel
    clear H2
    by_cases hlt : t < 64
    · as_aux_lemma =>
      obtain ⟨v, hv⟩ : ∃ v, goW hq0 ks ws t = v := ⟨_, rfl⟩
      have hvo : v.Ok := by rw [← hv]; exact goW_ok hq0 ks ws HOK.out t
      obtain ⟨ho, hbw⟩ := HK.out
      rw [hv] at ho
      obtain ⟨gv, rfl, hgv1, hgv2⟩ := OwnR.shape ho (by have := (OwnR.cap ho).1; omega)
      obtain ⟨ke, hke⟩ : ∃ z, ks.getD t 0 = z := ⟨_, rfl⟩
      obtain ⟨we, hwe⟩ : ∃ z, ws.getD t 0 = z := ⟨_, rfl⟩
      have kl : ke < 4294967296 := by rw [← hke]; exact getD_ltSh ks 4294967296 (by decide) HKS.out.2 _
      have wl : we < 4294967296 := by rw [← hwe]; exact getD_ltSh ws 4294967296 (by decide) HWS.out.2.1 _
      have ckk := HCK.out wr hbw t (by rw [HKS.out.1]; exact hlt)
      have cww := HCW.out wr hbw t (by rw [HWS.out.1]; exact hlt)
      rw [hke] at ckk
      rw [hwe] at cww
      obtain ⟨va, vb, vc, vd, ve, vf, vg, vh⟩ := v
      obtain ⟨la, lb, lc, ld, le, lf, lg, lh⟩ := hvo
      simp only at la lb lc ld le lf lg lh
      have KF : Hid (∀ W, OwnU W G (some ⟨gv, 0, none⟩) 8 cv (V8.list ⟨va, vb, vc, vd, ve, vf, vg, vh⟩) → W.cell? ⟨gv, 0, none⟩ = some (.int .u32 (va : Int)) ∧ W.cell? ⟨gv, 1, none⟩ = some (.int .u32 (vb : Int)) ∧ W.cell? ⟨gv, 2, none⟩ = some (.int .u32 (vc : Int)) ∧ W.cell? ⟨gv, 3, none⟩ = some (.int .u32 (vd : Int)) ∧ W.cell? ⟨gv, 4, none⟩ = some (.int .u32 (ve : Int)) ∧ W.cell? ⟨gv, 5, none⟩ = some (.int .u32 (vf : Int)) ∧ W.cell? ⟨gv, 6, none⟩ = some (.int .u32 (vg : Int)) ∧ W.cell? ⟨gv, 7, none⟩ = some (.int .u32 (vh : Int))) := fun W hW =>
        ⟨hW.cellAt 0 va rfl, hW.cellAt 1 vb rfl, hW.cellAt 2 vc rfl, hW.cellAt 3 vd rfl, hW.cellAt 4 ve rfl, hW.cellAt 5 vf rfl, hW.cellAt 6 vg rfl, hW.cellAt 7 vh rfl⟩
      obtain ⟨x0, x1, x2, x3, x4, x5, x6, x7⟩ := KF.out _ ho
      have i1 : (t : Int) < 64 := by omega
      have i2 : (0 : Int) ≤ (t : Int) := by omega
      have e1 : IntKind.i64.wrap ((t : Int) + 1) = (t : Int) + 1 := IntWalk.i64_in _ (by omega)
      have R6 := Lib.hid (fun W => rt_6 ve le W)
      have R11 := Lib.hid (fun W => rt_11 ve le W)
      have R25 := Lib.hid (fun W => rt_25 ve le W)
      have R2 := Lib.hid (fun W => rt_2 va la W)
      have R13 := Lib.hid (fun W => rt_13 va la W)
      have R22 := Lib.hid (fun W => rt_22 va la W)
      have b1 := bg1_bits ve le
      have b0 := bg0_bits va la
      have bn := not32 ve le
      obtain ⟨nm, hnm⟩ : ∃ z, 4294967295 - ve = z := ⟨_, rfl⟩
      have bc1 := chW_bits ve vf vg le lf lg (nm : Int) (by rw [hnm])
      rw [hnm] at bn
      clear hnm
      have bm := mjW_bits va vb vc la lb lc
      have l1 := bg1_lt ve le
      have l0 := bg0_lt va la
      have l2 := chW_lt ve vf vg le lf lg
      have l3 := mjW_lt va vb vc la lb lc
      have HST0 : Hid (stepW ⟨va, vb, vc, vd, ve, vf, vg, vh⟩ ke we = ⟨((((((vh + bg1 ve) % 4294967296 + chW ve vf vg) % 4294967296 + ke) % 4294967296 + we) % 4294967296) + (bg0 va + mjW va vb vc) % 4294967296) % 4294967296, va, vb, vc, (vd + (((((vh + bg1 ve) % 4294967296 + chW ve vf vg) % 4294967296 + ke) % 4294967296 + we) % 4294967296)) % 4294967296, ve, vf, vg⟩) := rfl
      obtain ⟨o6, ho6⟩ : ∃ z, rotr ve 6 = z := ⟨_, rfl⟩
      obtain ⟨o11, ho11⟩ : ∃ z, rotr ve 11 = z := ⟨_, rfl⟩
      obtain ⟨o25, ho25⟩ : ∃ z, rotr ve 25 = z := ⟨_, rfl⟩
      obtain ⟨o2, ho2⟩ : ∃ z, rotr va 2 = z := ⟨_, rfl⟩
      obtain ⟨o13, ho13⟩ : ∃ z, rotr va 13 = z := ⟨_, rfl⟩
      obtain ⟨o22, ho22⟩ : ∃ z, rotr va 22 = z := ⟨_, rfl⟩
      obtain ⟨g1, hg1⟩ : ∃ z, bg1 ve = z := ⟨_, rfl⟩
      obtain ⟨g0, hg0⟩ : ∃ z, bg0 va = z := ⟨_, rfl⟩
      obtain ⟨ch, hch⟩ : ∃ z, chW ve vf vg = z := ⟨_, rfl⟩
      obtain ⟨mj, hmj⟩ : ∃ z, mjW va vb vc = z := ⟨_, rfl⟩
      rw [ho6] at R6 b1
      rw [ho11] at R11 b1
      rw [ho25] at R25 b1
      rw [ho2] at R2 b0
      rw [ho13] at R13 b0
      rw [ho22] at R22 b0
      rw [hg1] at b1 l1 HST0
      rw [hg0] at b0 l0 HST0
      rw [hch] at bc1 l2 HST0
      rw [hmj] at bm l3 HST0
      obtain ⟨z1, hz1'⟩ : ∃ z, (vh + g1) % 4294967296 = z := ⟨_, rfl⟩
      obtain ⟨z2, hz2⟩ : ∃ z, (z1 + ch) % 4294967296 = z := ⟨_, rfl⟩
      obtain ⟨z3, hz3⟩ : ∃ z, (z2 + ke) % 4294967296 = z := ⟨_, rfl⟩
      obtain ⟨z4, hz4⟩ : ∃ z, (z3 + we) % 4294967296 = z := ⟨_, rfl⟩
      obtain ⟨z5, hz5⟩ : ∃ z, (g0 + mj) % 4294967296 = z := ⟨_, rfl⟩
      obtain ⟨z6, hz6⟩ : ∃ z, (z4 + z5) % 4294967296 = z := ⟨_, rfl⟩
      obtain ⟨z7, hz7⟩ : ∃ z, (vd + z4) % 4294967296 = z := ⟨_, rfl⟩
      rw [hz1', hz2, hz3, hz4, hz5, hz6, hz7] at HST0
      have ww1 : IntKind.u32.wrap ((vh : Int) + (g1 : Int)) = (z1 : Int) := by rw [IntKind.wrap_u32]; omega
      have ww2 : IntKind.u32.wrap ((z1 : Int) + (ch : Int)) = (z2 : Int) := by rw [IntKind.wrap_u32]; omega
      have ww3 : IntKind.u32.wrap ((z2 : Int) + (ke : Int)) = (z3 : Int) := by rw [IntKind.wrap_u32]; omega
      have ww4 : IntKind.u32.wrap ((z3 : Int) + (we : Int)) = (z4 : Int) := by rw [IntKind.wrap_u32]; omega
      have ww5 : IntKind.u32.wrap ((g0 : Int) + (mj : Int)) = (z5 : Int) := by rw [IntKind.wrap_u32]; omega
      have ww6 : IntKind.u32.wrap ((z4 : Int) + (z5 : Int)) = (z6 : Int) := by rw [IntKind.wrap_u32]; omega
      have ww7 : IntKind.u32.wrap ((vd : Int) + (z4 : Int)) = (z7 : Int) := by rw [IntKind.wrap_u32]; omega
      have y6 : ((z4 : Int) + (z5 : Int)) % 4294967296 = (z6 : Int) := by omega
      have y7 : ((vd : Int) + (z4 : Int)) % 4294967296 = (z7 : Int) := by omega
      have y01 : ((vh : Int) + (g1 : Int)) % 4294967296 = (z1 : Int) := by omega
      have y02 : ((z1 : Int) + (ch : Int)) % 4294967296 = (z2 : Int) := by omega
      have y03 : ((z2 : Int) + (ke : Int)) % 4294967296 = (z3 : Int) := by omega
      have y04 : ((z3 : Int) + (we : Int)) % 4294967296 = (z4 : Int) := by omega
      have y05 : ((g0 : Int) + (mj : Int)) % 4294967296 = (z5 : Int) := by omega
      have y08 : ((z1 : Int) + (ch : Int) + (ke : Int) + (we : Int)) % 4294967296 = (z4 : Int) := by omega
      have y09 : ((vh : Int) + (g1 : Int) + (ch : Int) + (ke : Int) + (we : Int)) % 4294967296 = (z4 : Int) := by omega
      have HNX : Hid (goW hq0 ks ws (t + 1) = ⟨z6, va, vb, vc, z7, ve, vf, vg⟩) := by
        unfold Hid
        show stepW (goW hq0 ks ws t) (ks.getD t 0) (ws.getD t 0) = _
        rw [hv, hke, hwe]
        exact HST0.out
      have hs : G ≤ wr.heap.size := by have := hbw.size; omega
      have HO := Lib.hid ho
      have HBW := Lib.hid hbw
      clear HK ho6 ho11 ho25 ho2 ho13 ho22 hg1 hg0 hch hmj hz1' hz2 hz3 hz4 hz5 hz6 hz7 hv hke hwe HST0 ho hbw
      go_wp2_with fail
      go_quiet (first
        | (go_at_call 71; (with_reducible exact Calls.quiet_of_same (R6.out _)))
        | (go_at_call 71; (with_reducible exact Calls.quiet_of_same (R11.out _)))
        | (go_at_call 71; (with_reducible exact Calls.quiet_of_same (R25.out _))))
      have HO2 : Hid (OwnU (wr.drewN nq) G (some ⟨gv, 0, none⟩) 8 cv (V8.list ⟨va, vb, vc, vd, ve, vf, vg, vh⟩) ∧ Below G w1 (wr.drewN nq) ∧ G ≤ (wr.drewN nq).heap.size) := ⟨OwnR.drewN HO.out nq, ⟨HBW.out.os, HBW.out.tape, HBW.out.output, HBW.out.size, HBW.out.block⟩, hs⟩
      clear x0 x1 x2 x3 x4 x5 x6 x7 ckk cww HO HBW hs
      generalize wr.drewN nq = wp at HO2 ⊢
      obtain ⟨x0, x1, x2, x3, x4, x5, x6, x7⟩ := KF.out _ HO2.out.1
      go_wp2_with fail
      go_quiet (first
        | (go_at_call 71; (with_reducible exact Calls.quiet_of_same (R2.out _)))
        | (go_at_call 71; (with_reducible exact Calls.quiet_of_same (R13.out _)))
        | (go_at_call 71; (with_reducible exact Calls.quiet_of_same (R22.out _))))
      have HO3 : Hid (OwnU (wp.drewN nq) G (some ⟨gv, 0, none⟩) 8 cv (V8.list ⟨va, vb, vc, vd, ve, vf, vg, vh⟩) ∧ Below G w1 (wp.drewN nq) ∧ G ≤ (wp.drewN nq).heap.size) := ⟨OwnR.drewN HO2.out.1 nq, ⟨HO2.out.2.1.os, HO2.out.2.1.tape, HO2.out.2.1.output, HO2.out.2.1.size, HO2.out.2.1.block⟩, HO2.out.2.2⟩
      clear x0 x1 x2 x3 x4 x5 x6 x7 HO2
      generalize wp.drewN nq = wz at HO3 ⊢
      obtain ⟨x0, x1, x2, x3, x4, x5, x6, x7⟩ := KF.out _ HO3.out.1
      have HD : Hid (∀ o, OwnU (wz.alloc o) G (some ⟨gv, 0, none⟩) 8 cv (V8.list ⟨va, vb, vc, vd, ve, vf, vg, vh⟩)) := fun o => OwnR.alloc HO3.out.1 o
      have hs : G ≤ wz.heap.size := HO3.out.2.2
      obtain ⟨d0, d1, d2, d3, d4, d5, d6, d7⟩ := KF.out _ (HD.out (.cells #[.int .u32 (z6 : Int), .int .u32 (va : Int), .int .u32 (vb : Int), .int .u32 (vc : Int), .int .u32 (z7 : Int), .int .u32 (ve : Int), .int .u32 (vf : Int), .int .u32 (vg : Int)] 26))
      clear la lb lc ld le lf lg lh kl wl l0 l1 l2 l3 i2 x7 d7
      clear b0 b1 bc1 bm bn ww1 ww2 ww3 ww4 ww5 y01 y02 y03 y04 y05 y08 y09 R6 R11 R25 R2 R13 R22
      go_wp2_with fail
      have HX := Lib.hid (show _ ∧ _ ∧ _ ∧ _ ∧ _ ∧ _ ∧ _ from ⟨x0, x1, x2, x3, x4, x5, x6⟩)
      have HDD := Lib.hid (show _ ∧ _ ∧ _ ∧ _ ∧ _ ∧ _ ∧ _ from ⟨d0, d1, d2, d3, d4, d5, d6⟩)
      clear x0 x1 x2 x3 x4 x5 x6 d0 d1 d2 d3 d4 d5 d6
      refine wp_region_noPanic ?_
      refine wp_region_held_drew (S := fun W => W.cell? ⟨gv, 0, none⟩ = some (.int .u32 (va : Int)) ∧ W.cell? ⟨gv, 1, none⟩ = some (.int .u32 (vb : Int)) ∧ W.cell? ⟨gv, 2, none⟩ = some (.int .u32 (vc : Int)) ∧ W.cell? ⟨gv, 3, none⟩ = some (.int .u32 (vd : Int)) ∧ W.cell? ⟨gv, 4, none⟩ = some (.int .u32 (ve : Int)) ∧ W.cell? ⟨gv, 5, none⟩ = some (.int .u32 (vf : Int)) ∧ W.cell? ⟨gv, 6, none⟩ = some (.int .u32 (vg : Int))) (by kernel_rfl) HX.out (fun hHeld => ?_)
      refine wpAnyH_take (i := 0) (oi := _) (v := ?_) rfl (by kernel_rfl) (by kernel_rfl) (by kernel_rfl) (fun _ _ _ hq0 => hq0) (Or.inl ⟨by rfl, ?_⟩) hHeld ?_
      rotate_left
      · (intro w hSw; (try dsimp only at hSw); go_simp; (try with_reducible rfl))
      simp only [Act.put, List.getElem_toArray, List.getElem_cons_succ, List.getElem_cons_zero, List.setIfInBounds_toArray, List.set_cons_zero, List.set_cons_succ]
      refine wpAnyH_take (i := 1) (oi := _) (v := ?_) rfl (by kernel_rfl) (by kernel_rfl) (by kernel_rfl) (fun _ _ _ hq0 => hq0) (Or.inl ⟨by rfl, ?_⟩) hHeld ?_
      rotate_left
      · (intro w hSw; (try dsimp only at hSw); go_simp; (try with_reducible rfl))
      simp only [Act.put, List.getElem_toArray, List.getElem_cons_succ, List.getElem_cons_zero, List.setIfInBounds_toArray, List.set_cons_zero, List.set_cons_succ]
      refine wpAnyH_take (i := 2) (oi := _) (v := ?_) rfl (by kernel_rfl) (by kernel_rfl) (by kernel_rfl) (fun _ _ _ hq0 => hq0) (Or.inl ⟨by rfl, ?_⟩) hHeld ?_
      rotate_left
      · (intro w hSw; (try dsimp only at hSw); go_simp; (try with_reducible rfl))
      simp only [Act.put, List.getElem_toArray, List.getElem_cons_succ, List.getElem_cons_zero, List.setIfInBounds_toArray, List.set_cons_zero, List.set_cons_succ]
      refine wpAnyH_take (i := 3) (oi := _) (v := ?_) rfl (by kernel_rfl) (by kernel_rfl) (by kernel_rfl) (fun _ _ _ hq0 => hq0) (Or.inl ⟨by rfl, ?_⟩) hHeld ?_
      rotate_left
      · (intro w hSw; (try dsimp only at hSw); go_simp; (try with_reducible rfl))
      simp only [Act.put, List.getElem_toArray, List.getElem_cons_succ, List.getElem_cons_zero, List.setIfInBounds_toArray, List.set_cons_zero, List.set_cons_succ]
      refine wpAnyH_take (i := 4) (oi := _) (v := ?_) rfl (by kernel_rfl) (by kernel_rfl) (by kernel_rfl) (fun _ _ _ hq0 => hq0) (Or.inl ⟨by rfl, ?_⟩) hHeld ?_
      rotate_left
      · (intro w hSw; (try dsimp only at hSw); go_simp; (try with_reducible rfl))
      simp only [Act.put, List.getElem_toArray, List.getElem_cons_succ, List.getElem_cons_zero, List.setIfInBounds_toArray, List.set_cons_zero, List.set_cons_succ]
      refine wpAnyH_take (i := 5) (oi := _) (v := ?_) rfl (by kernel_rfl) (by kernel_rfl) (by kernel_rfl) (fun _ _ _ hq0 => hq0) (Or.inl ⟨by rfl, ?_⟩) hHeld ?_
      rotate_left
      · (intro w hSw; (try dsimp only at hSw); go_simp; (try with_reducible rfl))
      simp only [Act.put, List.getElem_toArray, List.getElem_cons_succ, List.getElem_cons_zero, List.setIfInBounds_toArray, List.set_cons_zero, List.set_cons_succ]
      refine wpAnyH_take (i := 6) (oi := _) (v := ?_) rfl (by kernel_rfl) (by kernel_rfl) (by kernel_rfl) (fun _ _ _ hq0 => hq0) (Or.inl ⟨by rfl, ?_⟩) hHeld ?_
      rotate_left
      · (intro w hSw; (try dsimp only at hSw); go_simp; (try with_reducible rfl))
      simp only [Act.put, List.getElem_toArray, List.getElem_cons_succ, List.getElem_cons_zero, List.setIfInBounds_toArray, List.set_cons_zero, List.set_cons_succ]
      refine wpAnyH_take (i := 7) (oi := _) (v := ?_) rfl (by kernel_rfl) (by kernel_rfl) (by kernel_rfl) (fun _ _ _ hq0 => hq0) (Or.inl ⟨by rfl, ?_⟩) hHeld ?_
      rotate_left
      · (intro w hSw; (try dsimp only at hSw); go_simp; (try with_reducible rfl))
      simp only [Act.put, List.getElem_toArray, List.getElem_cons_succ, List.getElem_cons_zero, List.setIfInBounds_toArray, List.set_cons_zero, List.set_cons_succ]
      refine wpAnyH_take (i := 8) (oi := _) (v := ?_) rfl (by kernel_rfl) (by kernel_rfl) (by kernel_rfl) (fun _ _ _ hq0 => hq0) (Or.inl ⟨by rfl, ?_⟩) hHeld ?_
      rotate_left
      · (intro w hSw; (try dsimp only at hSw); go_simp; (try with_reducible rfl))
      simp only [Act.put, List.getElem_toArray, List.getElem_cons_succ, List.getElem_cons_zero, List.setIfInBounds_toArray, List.set_cons_zero, List.set_cons_succ]
      refine wpAnyH_take (i := 9) (oi := _) (v := ?_) rfl (by kernel_rfl) (by kernel_rfl) (by kernel_rfl) (fun _ _ _ hq0 => hq0) (Or.inl ⟨by rfl, ?_⟩) hHeld ?_
      rotate_left
      · (intro w hSw; (try dsimp only at hSw); go_simp; (try with_reducible rfl))
      simp only [Act.put, List.getElem_toArray, List.getElem_cons_succ, List.getElem_cons_zero, List.setIfInBounds_toArray, List.set_cons_zero, List.set_cons_succ]
      refine wpAnyH_take (i := 10) (oi := _) (v := ?_) rfl (by kernel_rfl) (by kernel_rfl) (by kernel_rfl) (fun _ _ _ hq0 => hq0) (Or.inl ⟨by rfl, ?_⟩) hHeld ?_
      rotate_left
      · (intro w hSw; (try dsimp only at hSw); go_simp; (try with_reducible rfl))
      simp only [Act.put, List.getElem_toArray, List.getElem_cons_succ, List.getElem_cons_zero, List.setIfInBounds_toArray, List.set_cons_zero, List.set_cons_succ]
      refine wpAnyH_take (i := 11) (oi := _) (v := ?_) rfl (by kernel_rfl) (by kernel_rfl) (by kernel_rfl) (fun _ _ _ hq0 => hq0) (Or.inl ⟨by rfl, ?_⟩) hHeld ?_
      rotate_left
      · (intro w hSw; (try dsimp only at hSw); go_simp; (try with_reducible rfl))
      simp only [Act.put, List.getElem_toArray, List.getElem_cons_succ, List.getElem_cons_zero, List.setIfInBounds_toArray, List.set_cons_zero, List.set_cons_succ]
      refine wpAnyH_take (i := 12) (oi := _) (v := ?_) rfl (by kernel_rfl) (by kernel_rfl) (by kernel_rfl) (fun _ _ _ hq0 => hq0) (Or.inl ⟨by rfl, ?_⟩) hHeld ?_
      rotate_left
      · (intro w hSw; (try dsimp only at hSw); go_simp; (try with_reducible rfl))
      simp only [Act.put, List.getElem_toArray, List.getElem_cons_succ, List.getElem_cons_zero, List.setIfInBounds_toArray, List.set_cons_zero, List.set_cons_succ]
      refine wpAnyH_take (i := 13) (oi := _) (v := ?_) rfl (by kernel_rfl) (by kernel_rfl) (by kernel_rfl) (fun _ _ _ hq0 => hq0) (Or.inl ⟨by rfl, ?_⟩) hHeld ?_
      rotate_left
      · (intro w hSw; (try dsimp only at hSw); go_simp; (try with_reducible rfl))
      simp only [Act.put, List.getElem_toArray, List.getElem_cons_succ, List.getElem_cons_zero, List.setIfInBounds_toArray, List.set_cons_zero, List.set_cons_succ]
      refine wpAnyH_take (i := 14) (oi := _) (v := ?_) rfl (by kernel_rfl) (by kernel_rfl) (by kernel_rfl) (fun _ _ _ hq0 => hq0) (Or.inl ⟨by rfl, ?_⟩) hHeld ?_
      rotate_left
      · (intro w hSw; (try dsimp only at hSw); go_simp; (try with_reducible rfl))
      simp only [Act.put, List.getElem_toArray, List.getElem_cons_succ, List.getElem_cons_zero, List.setIfInBounds_toArray, List.set_cons_zero, List.set_cons_succ]
      refine wpAnyH_take (i := 15) (oi := _) (v := ?_) rfl (by kernel_rfl) (by kernel_rfl) (by kernel_rfl) (fun _ _ _ hq0 => hq0) (Or.inl ⟨by rfl, ?_⟩) hHeld ?_
      rotate_left
      · (intro w hSw; (try dsimp only at hSw); go_simp; (try with_reducible rfl))
      simp only [Act.put, List.getElem_toArray, List.getElem_cons_succ, List.getElem_cons_zero, List.setIfInBounds_toArray, List.set_cons_zero, List.set_cons_succ]
      refine wpAnyH_take (i := 16) (oi := _) (v := ?_) rfl (by kernel_rfl) (by kernel_rfl) (by kernel_rfl) (fun _ _ _ hq0 => hq0) (Or.inl ⟨by rfl, ?_⟩) hHeld ?_
      rotate_left
      · (intro w hSw; (try dsimp only at hSw); go_simp; (try with_reducible rfl))
      simp only [Act.put, List.getElem_toArray, List.getElem_cons_succ, List.getElem_cons_zero, List.setIfInBounds_toArray, List.set_cons_zero, List.set_cons_succ]
      refine wpAnyH_take (i := 17) (oi := _) (v := ?_) rfl (by kernel_rfl) (by kernel_rfl) (by kernel_rfl) (fun _ _ _ hq0 => hq0) (Or.inl ⟨by rfl, ?_⟩) hHeld ?_
      rotate_left
      · (intro w hSw; (try dsimp only at hSw); go_simp; (try with_reducible rfl))
      simp only [Act.put, List.getElem_toArray, List.getElem_cons_succ, List.getElem_cons_zero, List.setIfInBounds_toArray, List.set_cons_zero, List.set_cons_succ]
      refine wpAnyH_take (i := 18) (oi := _) (v := ?_) rfl (by kernel_rfl) (by kernel_rfl) (by kernel_rfl) (fun _ _ _ hq0 => hq0) (Or.inl ⟨by rfl, ?_⟩) hHeld ?_
      rotate_left
      · (intro w hSw; (try dsimp only at hSw); go_simp; (try with_reducible rfl))
      simp only [Act.put, List.getElem_toArray, List.getElem_cons_succ, List.getElem_cons_zero, List.setIfInBounds_toArray, List.set_cons_zero, List.set_cons_succ]
      refine wpAnyH_take (i := 19) (oi := _) (v := ?_) rfl (by kernel_rfl) (by kernel_rfl) (by kernel_rfl) (fun _ _ _ hq0 => hq0) (Or.inl ⟨by rfl, ?_⟩) hHeld ?_
      rotate_left
      · (intro w hSw; (try dsimp only at hSw); go_simp; (try with_reducible rfl))
      simp only [Act.put, List.getElem_toArray, List.getElem_cons_succ, List.getElem_cons_zero, List.setIfInBounds_toArray, List.set_cons_zero, List.set_cons_succ]
      refine wpAnyH_take (i := 20) (oi := _) (v := ?_) rfl (by kernel_rfl) (by kernel_rfl) (by kernel_rfl) (fun _ _ _ hq0 => hq0) (Or.inl ⟨by rfl, ?_⟩) hHeld ?_
      rotate_left
      · (intro w hSw; (try dsimp only at hSw); go_simp; (try with_reducible rfl))
      simp only [Act.put, List.getElem_toArray, List.getElem_cons_succ, List.getElem_cons_zero, List.setIfInBounds_toArray, List.set_cons_zero, List.set_cons_succ]
      refine wpAnyH_take (i := 21) (oi := _) (v := ?_) rfl (by kernel_rfl) (by kernel_rfl) (by kernel_rfl) (fun _ _ _ hq0 => hq0) (Or.inl ⟨by rfl, ?_⟩) hHeld ?_
      rotate_left
      · (intro w hSw; (try dsimp only at hSw); go_simp; (try with_reducible rfl))
      simp only [Act.put, List.getElem_toArray, List.getElem_cons_succ, List.getElem_cons_zero, List.setIfInBounds_toArray, List.set_cons_zero, List.set_cons_succ]
      refine wpAnyH_take (i := 22) (oi := _) (v := ?_) rfl (by kernel_rfl) (by kernel_rfl) (by kernel_rfl) (fun _ _ _ hq0 => hq0) (Or.inl ⟨by rfl, ?_⟩) hHeld ?_
      rotate_left
      · (intro w hSw; (try dsimp only at hSw); go_simp; (try with_reducible rfl))
      simp only [Act.put, List.getElem_toArray, List.getElem_cons_succ, List.getElem_cons_zero, List.setIfInBounds_toArray, List.set_cons_zero, List.set_cons_succ]
      refine wpAnyH_take (i := 23) (oi := _) (v := ?_) rfl (by kernel_rfl) (by kernel_rfl) (by kernel_rfl) (fun _ _ _ hq0 => hq0) (Or.inl ⟨by rfl, ?_⟩) hHeld ?_
      rotate_left
      · (intro w hSw; (try dsimp only at hSw); go_simp; (try with_reducible rfl))
      simp only [Act.put, List.getElem_toArray, List.getElem_cons_succ, List.getElem_cons_zero, List.setIfInBounds_toArray, List.set_cons_zero, List.set_cons_succ]
      refine wpAnyH_take (i := 24) (oi := _) (v := ?_) rfl (by kernel_rfl) (by kernel_rfl) (by kernel_rfl) (fun _ _ _ hq0 => hq0) (Or.inl ⟨by rfl, ?_⟩) hHeld ?_
      rotate_left
      · (intro w hSw; (try dsimp only at hSw); go_simp; (try with_reducible rfl))
      simp only [Act.put, List.getElem_toArray, List.getElem_cons_succ, List.getElem_cons_zero, List.setIfInBounds_toArray, List.set_cons_zero, List.set_cons_succ]
      refine wpAnyH_take (i := 25) (oi := _) (v := ?_) rfl (by kernel_rfl) (by kernel_rfl) (by kernel_rfl) (fun _ _ _ hq0 => hq0) (Or.inl ⟨by rfl, ?_⟩) hHeld ?_
      rotate_left
      · (intro w hSw; (try dsimp only at hSw); go_simp; (try with_reducible rfl))
      simp only [Act.put, List.getElem_toArray, List.getElem_cons_succ, List.getElem_cons_zero, List.setIfInBounds_toArray, List.set_cons_zero, List.set_cons_succ]
      refine wpAnyH_ready (rs := [26]) (by kernel_rfl) (by simp) ?_
      refine AllReadyH.cons (o := _) rfl (fun K hK => ?_) AllReadyH.nil
      clear hHeld
      refine step_bs8 rfl _ _ _ _ _ _ _ _ rfl (z6 : Int) (va : Int) (vb : Int) (vc : Int) (z7 : Int) (ve : Int) (vf : Int) (vg : Int) rfl rfl rfl rfl rfl rfl rfl rfl ?_
      simp only [Act.put, List.getElem_toArray, List.getElem_cons_succ, List.getElem_cons_zero, List.setIfInBounds_toArray, List.set_cons_zero, List.set_cons_succ]
      refine hK _ _ ?_ (fun hHeld => ?_)
      · exact HDD.out
      clear hK K
      try simp only [Act.put, List.getElem_toArray, List.getElem_cons_succ, List.getElem_cons_zero, List.setIfInBounds_toArray, List.set_cons_zero, List.set_cons_succ]
      refine wpAnyH_take (i := 27) (oi := _) (v := ?_) rfl (by kernel_rfl) (by kernel_rfl) (by kernel_rfl) (fun _ _ _ hq0 => hq0) (Or.inl ⟨by rfl, ?_⟩) hHeld ?_
      rotate_left
      · (intro w hSw; (try dsimp only at hSw); go_simp; (try with_reducible rfl))
      simp only [Act.put, List.getElem_toArray, List.getElem_cons_succ, List.getElem_cons_zero, List.setIfInBounds_toArray, List.set_cons_zero, List.set_cons_succ]
      refine wpAnyH_done (by kernel_rfl) ?_ _
      refine NoPanic.normal ?_
      all_goals
        have HN : Hid (OwnU (wz.alloc (.cells #[.int .u32 (z6 : Int), .int .u32 (va : Int), .int .u32 (vb : Int), .int .u32 (vc : Int), .int .u32 (z7 : Int), .int .u32 (ve : Int), .int .u32 (vf : Int), .int .u32 (vg : Int)] 26)) G (some ⟨wz.heap.size, 0, none⟩) 8 8 (goW hq0 ks ws (t + 1)).list ∧ Below G w1 (wz.alloc (.cells #[.int .u32 (z6 : Int), .int .u32 (va : Int), .int .u32 (vb : Int), .int .u32 (vc : Int), .int .u32 (z7 : Int), .int .u32 (ve : Int), .int .u32 (vf : Int), .int .u32 (vg : Int)] 26))) := by
          refine ⟨?_, HO3.out.2.1.alloc hs _⟩
          rw [HNX.out]
          exact OwnR.lower (OwnR.lit wz _ 1 #[v32 z6, v32 va, v32 vb, v32 vc, v32 z7, v32 ve, v32 vf, v32 vg] 8 (by unfold maxLen; omega) rfl) hs
        clear hHeld HX HDD ww6 ww7 y6 y7 HO3 HD
        go_wp2
        go_roundw
        case rel => exact ⟨t + 1, some ⟨wz.heap.size, 0, none⟩, 8, rfl, by go_num, by omega, HN.out.1, HN.out.2.drew⟩
        case measure => simp [intOf]; omega
    · as_aux_lemma =>
      obtain rfl : t = 64 := by omega
      have i1 : ¬ ((64 : Nat) : Int) < 64 := by omega
      obtain ⟨u, hu⟩ : ∃ u, goW hq0 ks ws 64 = u := ⟨_, rfl⟩
      have HU : Hid ((blockW hq0 ks bn).list = (addV hq0 u).list) := by unfold Hid blockW; rw [HWS.out.2.2, hu]
      have hlh := list_lt hq0 HOK.out
      have hlu := list_lt u (by rw [← hu]; exact goW_ok hq0 ks ws HOK.out 64)
      obtain ⟨ho, hbw⟩ := HK.out
      rw [hu] at ho
      obtain ⟨gv, rfl, hgv1, hgv2⟩ := OwnR.shape ho (by have := (OwnR.cap ho).1; omega)
      have hs : G ≤ wr.heap.size := by have := hbw.size; omega
      have H4 : Hid (OwnU wr G (some ⟨gv, 0, none⟩) 8 cv u.list ∧ Below G w1 wr) := ⟨ho, hbw⟩
      have HLH := Lib.hid hlh
      have HLU := Lib.hid hlu
      clear ho hbw hu HK hlh hlu
      go_wp2_with (refine wpList_mkR u32_row _ _ rfl rfl _ _ _ _ 8 rfl rfl rfl rfl (by unfold maxLen; omega) (by omega) ?_)
      intro w5 hown5 hg5
      obtain ⟨go, hgo⟩ : ∃ go, wr.heap.size = go := ⟨_, rfl⟩
      have H5 : Hid (OwnU w5 G (some ⟨go, 0, none⟩) 8 8 (addAt hq0 u 0) ∧ OwnU w5 G (some ⟨gv, 0, none⟩) 8 cv u.list ∧ Below G w1 w5) := by
        obtain ⟨q1, q2⟩ := H4.out
        refine ⟨?_, OwnR.kept q1 hg5 (by right; intro e; cases e), q2.grown hg5 hs (by intro k hk; cases hk)⟩
        rw [← hgo]
        refine OwnR.lower (base := wr.heap.size) ?_ hs
        have e8 : (madeCells (Value.int .u32 0).cells (8 * 1)).toList = (addAt hq0 u 0).map v32 := by
          rw [show (Value.int .u32 0).cells = #[.int .u32 0] from rfl, toList_madeCells_one]
          rfl
        rw [← e8]
        exact hown5
      rw [hgo] at hgv2 ⊢
      clear hown5 hg5 H4 hgo hs
      go_wp2_with fail
      go_loopw [14] (fun vi wl => ∃ i : Nat, vi = .int .i64 (i : Int) ∧ i ≤ 8 ∧ Hid (OwnU wl G (some ⟨go, 0, none⟩) 8 8 (addAt hq0 u i) ∧ OwnU wl G (some ⟨gv, 0, none⟩) 8 cv u.list ∧ Below G w1 wl)) (fun vi _ => 8 - (intOf vi).toNat)
      case atStart => exact ⟨0, rfl, Nat.zero_le _, H5.out⟩
      case round =>
        obtain ⟨i, rfl, hi, HJ⟩ := hrel
        clear H5
        by_cases hi8 : i < 8
        · obtain ⟨q1, q2, q3⟩ := HJ.out
          obtain ⟨x, hx, hxd⟩ := at_of (l := hq0.list) (j := i) hi8
          obtain ⟨y, hy, hyd⟩ := at_of (l := u.list) (j := i) hi8
          have hx32 := HLH.out x (List.mem_of_getElem? hx)
          have hy32 := HLU.out y (List.mem_of_getElem? hy)
          have c1 := HCH.out wr q3 i hi8
          rw [hxd] at c1
          have c2 := q2.cellAt i y hy
          obtain ⟨z0, hz0⟩ : ∃ z, (addAt hq0 u i)[i]? = some z := ⟨_, List.getElem?_eq_getElem (by have := OwnU.len q1; omega)⟩
          have cO := q1.cellAt i z0 hz0
          have fO := OwnR.free q1 i
          obtain ⟨s, hs⟩ : ∃ s, (x + y) % 4294967296 = s := ⟨_, rfl⟩
          have f1 : IntKind.u32.wrap ((x : Int) + (y : Int)) = (s : Int) := by rw [IntKind.wrap_u32]; omega
          have f2 : ((x : Int) + (y : Int)) % 4294967296 = (s : Int) := by omega
          have e1 : IntKind.i64.wrap ((i : Int) + 1) = (i : Int) + 1 := IntWalk.i64_in _ (by omega)
          have i2 : (i : Int) < 8 := by omega
          have i3 : (0 : Int) ≤ (i : Int) := by omega
          have HN : Hid (OwnU (wr.drew.setCell ⟨go, i, none⟩ (.int .u32 (s : Int))) G (some ⟨go, 0, none⟩) 8 8 (addAt hq0 u (i + 1)) ∧ OwnU (wr.drew.setCell ⟨go, i, none⟩ (.int .u32 (s : Int))) G (some ⟨gv, 0, none⟩) 8 cv u.list ∧ Below G w1 (wr.drew.setCell ⟨go, i, none⟩ (.int .u32 (s : Int)))) := by
            have hG2 := (OwnR.blk_lt q1 (g := go) rfl).1
            refine ⟨?_, OwnR.kept (w := wr.drew) q2 (grown_one wr.drew go i _) (by right; show some gv ≠ some go; intro e; injection e with e; omega), q3.drew.setCell hG2 _⟩
            rw [← addAt_next hq0 u i hi8, hxd, hyd, hs]
            exact OwnU.store (w := wr.drew) q1 i s
          clear q1 q2 q3 HJ hx hy hxd hyd hz0 hs
          go_wp2_with fail
          go_region
          all_goals
            clear c1 c2 cO fO f1 f2
            go_wp2
            go_roundw
            case rel => exact ⟨i + 1, by go_num, by omega, HN.out⟩
            case measure => simp [intOf]; omega
        · obtain rfl : i = 8 := by omega
          have i2 : ¬ ((8 : Nat) : Int) < 8 := by omega
          have HF : Hid (OwnU wr w.heap.size (some ⟨go, 0, none⟩) 8 8 ((blockW hq0 ks bn).list) ∧ Below w.heap.size w wr) := by
            obtain ⟨q1, q2, q3⟩ := HJ.out
            rw [HU.out]
            exact ⟨OwnR.lower (base := G) q1 HB1.out.2, HB1.out.1.trans (q3.mono HB1.out.2)⟩
          clear HJ
          go_wp2
          go_ret
          exact ⟨go, rfl, HF.out.1, HF.out.2⟩
end Go.Proofs.YtcedojmhgmgcgaaGreatDoor
