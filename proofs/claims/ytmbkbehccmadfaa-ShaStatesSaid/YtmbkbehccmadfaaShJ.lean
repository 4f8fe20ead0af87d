/-
  sha: a step of the sum, walked.
-/
import Derived.Test.YtmbkbehccmadfaaShI
import Derived.Great.BuildSlice
namespace Go.Proofs.Ytmbkbehccmadfaa
open Go.RowKit Go
set_option linter.unusedVariables false
set_option linter.unusedSimpArgs false
set_option maxRecDepth 100000
theorem rq {n : Int} {x r : Nat} {w : World} (h : Calls Try.prog 38 #[.int .u32 x, .int .i64 n] w fun e w' => e = .returned (.int .u32 (r : Nat)) ∧ w = w') : Calls Try.prog 38 #[.int .u32 x, .int .i64 n] w fun e w' => e = .returned (.int .u32 (r : Nat)) ∧ w' = w := h.mono fun _ _ h => ⟨h.1, h.2.symm⟩
theorem v8_get (v : V8) : v.list.map v32 = [v32 v.a, v32 v.b, v32 v.c, v32 v.d, v32 v.e, v32 v.f, v32 v.g, v32 v.h] := rfl
/-- The state of the rounds. -/
structure StepS (w : World) (G GW GV : Nat) (v0 v : V8) (ks ws : List Nat) (W : World) : Prop where
  ss : ArrIs W G 34 (v0.list.map v32)
  kk : ArrIs W (G + 1 + 1) 59 (ks.map v32)
  rr : ArrIs W (G + 1 + 1 + 1) 34 (List.replicate 8 (.int .u32 0))
  ww : ArrIs W GW 59 (ws.map v32)
  vv : ArrIs W GV 34 (v.list.map v32)
  bb : Below G w W
theorem StepS.drewN {w W : World} {G GW GV : Nat} {v0 v : V8} {ks ws : List Nat} (h : StepS w G GW GV v0 v ks ws W) (j : Nat) : StepS w G GW GV v0 v ks ws (W.drewN j) := ⟨h.ss, h.kk, h.rr, h.ww, h.vv, ⟨h.bb.os, h.bb.tape, h.bb.output, h.bb.size, h.bb.block⟩⟩
theorem StepS.cells {w W : World} {G GW GV a b c d e f g h : Nat} {v0 : V8} {ks ws : List Nat} (H : StepS w G GW GV v0 ⟨a, b, c, d, e, f, g, h⟩ ks ws W) :
    W.cell? ⟨GV, 0, none⟩ = some (v32 a) ∧ W.cell? ⟨GV, 1, none⟩ = some (v32 b) ∧ W.cell? ⟨GV, 2, none⟩ = some (v32 c) ∧ W.cell? ⟨GV, 3, none⟩ = some (v32 d) ∧ W.cell? ⟨GV, 4, none⟩ = some (v32 e) ∧ W.cell? ⟨GV, 5, none⟩ = some (v32 f) ∧ W.cell? ⟨GV, 6, none⟩ = some (v32 g) ∧ W.cell? ⟨GV, 7, none⟩ = some (v32 h) :=
  ⟨H.vv.cell rfl, H.vv.cell rfl, H.vv.cell rfl, H.vv.cell rfl, H.vv.cell rfl, H.vv.cell rfl, H.vv.cell rfl, H.vv.cell rfl⟩
theorem ones_xor (x : Nat) (h : x < 4294967296) : 4294967295 ^^^ x = 4294967295 - x := by
  have e : (BitVec.allOnes 32 ^^^ BitVec.ofNat 32 x).toNat = (~~~ (BitVec.ofNat 32 x)).toNat := by rw [BitVec.allOnes_xor]
  rw [BitVec.toNat_xor, BitVec.toNat_not, BitVec.toNat_allOnes, BitVec.toNat_ofNat, Nat.mod_eq_of_lt h] at e
  simpa using e
theorem not32 (x : Nat) (h : x < 4294967296) : bits BinOp.xor IntKind.u32 IntKind.u32.max (x : Int) = ((4294967295 - x : Nat) : Int) := by
  have e : IntKind.u32.max = ((4294967295 : Nat) : Int) := by decide
  rw [e, u32_xor_nat _ _ (by decide) h, ones_xor x h]
def mixL (v u : V8) (i : Nat) : List Nat := (List.zipWith (fun x y => (x + y) % 4294967296) v.list u.list).take i ++ v.list.drop i
theorem mixL_zero (v u : V8) : mixL v u 0 = v.list := rfl
theorem mixL_full (v u : V8) : mixL v u 8 = (addV v u).list := rfl
theorem mixL_get (v u : V8) (i : Nat) (hi : i < 8) : ∃ p q, v.list[i]? = some p ∧ u.list[i]? = some q ∧ (mixL v u i)[i]? = some p ∧ mixL v u (i + 1) = (mixL v u i).set i ((p + q) % 4294967296) := by
  match i, hi with
  | 0, _ => exact ⟨_, _, rfl, rfl, rfl, rfl⟩
  | 1, _ => exact ⟨_, _, rfl, rfl, rfl, rfl⟩
  | 2, _ => exact ⟨_, _, rfl, rfl, rfl, rfl⟩
  | 3, _ => exact ⟨_, _, rfl, rfl, rfl, rfl⟩
  | 4, _ => exact ⟨_, _, rfl, rfl, rfl, rfl⟩
  | 5, _ => exact ⟨_, _, rfl, rfl, rfl, rfl⟩
  | 6, _ => exact ⟨_, _, rfl, rfl, rfl, rfl⟩
  | 7, _ => exact ⟨_, _, rfl, rfl, rfl, rfl⟩
theorem V8.Ok.mem {v : V8} (h : v.Ok) : ∀ x ∈ v.list, x < 4294967296 := by
  intro x hx
  simp only [V8.list, List.mem_cons, List.not_mem_nil, or_false] at hx
  rcases hx with rfl | rfl | rfl | rfl | rfl | rfl | rfl | rfl
  · exact h.a
  · exact h.b
  · exact h.c
  · exact h.d
  · exact h.e
  · exact h.f
  · exact h.g
  · exact h.h
theorem built8 (a b c d e f g h : Int) : Try.prog.built 34 [(0, .int .u32 a), (1, .int .u32 b), (2, .int .u32 c), (3, .int .u32 d), (4, .int .u32 e), (5, .int .u32 f), (6, .int .u32 g), (7, .int .u32 h)] = some #[.int .u32 a, .int .u32 b, .int .u32 c, .int .u32 d, .int .u32 e, .int .u32 f, .int .u32 g, .int .u32 h] := by kernel_rfl
theorem wpList_b8 {ops : Array Oper} {rest : List Oper} {o : Oper} {a : Act} {w : World} {Q : Exit → Act → World → Prop} (hg : o.guard = none) (x0 x1 x2 x3 x4 x5 x6 x7 : Operand) (ho : o.op = .build 34 #[(0, x0), (1, x1), (2, x2), (3, x3), (4, x4), (5, x5), (6, x6), (7, x7)]) (d : Option Tmp) (hd : o.dst = d) (a0 a1 a2 a3 a4 a5 a6 a7 : Int)
    (h0 : a.eval x0 = .int .u32 a0) (h1 : a.eval x1 = .int .u32 a1) (h2 : a.eval x2 = .int .u32 a2) (h3 : a.eval x3 = .int .u32 a3) (h4 : a.eval x4 = .int .u32 a4) (h5 : a.eval x5 = .int .u32 a5) (h6 : a.eval x6 = .int .u32 a6) (h7 : a.eval x7 = .int .u32 a7)
    (h : wpList Try.prog ops Q rest (a.put d (.agg #[.int .u32 a0, .int .u32 a1, .int .u32 a2, .int .u32 a3, .int .u32 a4, .int .u32 a5, .int .u32 a6, .int .u32 a7])) w) : wpList Try.prog ops Q (o :: rest) a w := by
  refine wpList_buildTo hg _ _ ho d hd #[.int .u32 a0, .int .u32 a1, .int .u32 a2, .int .u32 a3, .int .u32 a4, .int .u32 a5, .int .u32 a6, .int .u32 a7] ?_ h
  simp only [List.map_toArray, List.map_cons, List.map_nil, h0, h1, h2, h3, h4, h5, h6, h7]
  exact built8 a0 a1 a2 a3 a4 a5 a6 a7
theorem agg_hold (l : List Nat) (n : Nat) (h : l.length = n) : (l.map v32).toArray.size = n := by simp [h]
set_option maxHeartbeats 4000000 in
theorem step_any (v0 : V8) (ks bs : List Nat) (hv : v0.Ok) (hks : ks.length = 64) (hkl : ∀ x ∈ ks, x < 4294967296) (hl : bs.length = 64) (hb : ∀ x ∈ bs, x < 256) (w : World) :
    Calls Try.prog 29 #[.agg (v0.list.map v32).toArray, .agg (bs.map v8).toArray, .agg (ks.map v32).toArray] w fun e w' => e = .returned (.agg ((blockW v0 ks bs).list.map v32).toArray) ∧ Below w.heap.size w w' := by
  have SC := Lib.hid (fun W => schedule_any bs hl hb W)
  have hws : (schW bs).length = 64 := by unfold schW; rw [restW_len, firstW_len]
  have hwl : ∀ x ∈ schW bs, x < 4294967296 := restW_lt _ (firstW_lt bs hb 16) 48
  obtain ⟨ws, hws0⟩ : ∃ ws, schW bs = ws := ⟨_, rfl⟩
  have HBW : Hid (blockW v0 ks bs = addV v0 (goW v0 ks ws 64)) := by unfold Hid blockW; rw [hws0]
  rw [hws0] at SC hws hwl
  obtain ⟨c0, hc0⟩ : ∃ c, (v0.list.map v32).toArray = c := ⟨_, rfl⟩
  obtain ⟨c1, hc1⟩ : ∃ c, (bs.map v8).toArray = c := ⟨_, rfl⟩
  obtain ⟨c2, hc2⟩ : ∃ c, (ks.map v32).toArray = c := ⟨_, rfl⟩
  obtain ⟨c3, hc3⟩ : ∃ c, (ws.map v32).toArray = c := ⟨_, rfl⟩
  have HC0 := Lib.hid hc0
  have HC2 := Lib.hid hc2
  have HC3 := Lib.hid hc3
  have s0 : c0.size = 8 := by rw [← hc0]; rfl
  have s1 : c1.size = 64 := by rw [← hc1]; simp [hl]
  have s3 : c3.size = 64 := by rw [← hc3]; simp [hws]
  have o0 : c0.all (·.oneCell') = true := by rw [← hc0]; exact all32 _
  have o3 : c3.all (·.oneCell') = true := by rw [← hc3]; exact all32 _
  have z0 : (Try.prog.info? 34).map (·.size) = some c0.size := by rw [s0]; kernel_rfl
  have z1 : (Try.prog.info? 36).map (·.size) = some c1.size := by rw [s1]; kernel_rfl
  have z3 : (Try.prog.info? 59).map (·.size) = some c3.size := by rw [s3]; kernel_rfl
  have HZ := Lib.hid (show _ ∧ _ ∧ _ ∧ _ ∧ _ ∧ _ ∧ _ ∧ _ from ⟨s0, s1, s3, o0, o3, z0, z1, z3⟩)
  rw [hc0, hc1, hc2]
  rw [hc1, hc3] at SC
  have HV := Lib.hid hv
  have HKS := Lib.hid (show _ ∧ _ ∧ _ ∧ _ from ⟨hks, hkl, hws, hwl⟩)
  clear hv hks hkl hl hb hws hwl hws0 hc0 hc1 hc2 hc3 s0 s1 s3 o0 o3 z0 z1 z3
  have K1 : Hid ((((w.alloc (.cells c0 34)).alloc (.cells c1 36)).alloc (.cells c2 59)).heap[w.heap.size + 1]? = some (.cells c1 36)) := has_alloc (has_new' _ _ _ (by simp)) _
  have K1' : Hid (((((w.alloc (.cells c0 34)).alloc (.cells c1 36)).alloc (.cells c2 59)).alloc (.cells #[.int .u32 0, .int .u32 0, .int .u32 0, .int .u32 0, .int .u32 0, .int .u32 0, .int .u32 0, .int .u32 0] 34)).heap[w.heap.size + 1]? = some (.cells c1 36)) := has_alloc K1.out _
  go_enter Try.func29, Try.ntmps29
  go_wp2_with (refine wpList_load_row rfl _ _ rfl (w.heap.size + 1) rfl _ _ _ _ K1'.out Try.underlying36 rfl HZ.out.2.2.2.2.2.2.1 ?_)
  refine (SC.out _).mono ?_
  rintro e w1 ⟨rfl, hb1⟩
  have b4 : Below w.heap.size w w1 := kp_call (kp_alloc (kp_alloc (kp_alloc (kp_alloc (Below.refl _ _) _) _) _) _) hb1
  have hz1 := hb1.size
  simp only [World.size_alloc] at hz1
  have g0 : w1.heap[w.heap.size]? = some (.cells c0 34) := has_below (has_alloc (has_alloc (has_alloc (has_new w _) _) _) _) hb1
  have g2 : w1.heap[w.heap.size + 1 + 1]? = some (.cells c2 59) := has_below (has_alloc (has_new' _ _ _ (by simp)) _) hb1
  have g3 : w1.heap[w.heap.size + 1 + 1 + 1]? = some (.cells #[.int .u32 0, .int .u32 0, .int .u32 0, .int .u32 0, .int .u32 0, .int .u32 0, .int .u32 0, .int .u32 0] 34) := has_below (has_new' _ _ _ (by simp)) hb1
  have LD : Hid (∀ o, ((w1.alloc o).setRow w1.heap.size c3).heap[w.heap.size]? = some (.cells c0 34 (0, 0))) := fun o => by
    rw [setRow_other _ _ _ _ (by omega)]; exact has_alloc g0 o
  have HG := Lib.hid (show _ ∧ _ ∧ _ ∧ _ from ⟨g0, g2, g3, b4⟩)
  clear g0 g2 g3 b4 hb1 SC K1 K1'
  go_wp2_with (first
    | (refine wpList_store_row rfl _ _ _ rfl w1.heap.size c3 rfl rfl _ _ (has_new w1 _) HZ.out.2.2.2.2.2.2.2 (by rw [HZ.out.2.2.1]; rfl) HZ.out.2.2.2.2.1 ?_)
    | (refine wpList_load_row rfl _ _ rfl w.heap.size rfl _ _ _ _ (LD.out _) Try.underlying34 rfl HZ.out.2.2.2.2.2.1 ?_)
    | (refine wpList_store_row rfl _ _ _ rfl (w1.heap.size + 1) c0 rfl rfl _ _ (has_new' _ _ _ (by simp)) HZ.out.2.2.2.2.2.1 (by rw [HZ.out.1]; rfl) HZ.out.2.2.2.1 ?_))
  refine wp_nm fun W2 hW2 => ?_
  have S2 : Hid (StepS w w.heap.size w1.heap.size (w1.heap.size + 1) v0 (goW v0 ks ws 0) ks ws W2) := by
    obtain ⟨g0, g2, g3, b4⟩ := HG.out
    rw [← hW2]
    refine ⟨?_, ?_, ?_, ?_, ?_, ?_⟩
    · unfold ArrIs
      rw [HC0.out, setRow_other _ _ _ _ (by omega)]
      exact has_alloc (LD.out _) _
    · unfold ArrIs
      rw [HC2.out, setRow_other _ _ _ _ (by omega)]
      refine has_alloc ?_ _
      rw [setRow_other _ _ _ _ (by omega)]
      exact has_alloc g2 _
    · unfold ArrIs
      rw [setRow_other _ _ _ _ (by omega)]
      refine has_alloc ?_ _
      rw [setRow_other _ _ _ _ (by omega)]
      exact has_alloc g3 _
    · unfold ArrIs
      rw [HC3.out, setRow_other _ _ _ _ (by omega)]
      refine has_alloc ?_ _
      rw [setRow_heap _ w1.heap.size _ _ _ _ (has_new w1 _)]
    · unfold ArrIs
      rw [setRow_heap _ (w1.heap.size + 1) _ _ _ _ (has_new' _ _ _ (by simp))]
      show _ = some (Obj.cells (v0.list.map v32).toArray _)
      rw [HC0.out]
    · refine below_setRow ?_ (by omega) _
      refine Below.alloc ?_ (by simp; omega) _
      refine below_setRow ?_ (by omega) _
      exact Below.alloc b4 (by omega) _
  clear hW2 LD HC0 HC2 HC3 HG
  obtain ⟨G, hG⟩ : ∃ G, w.heap.size = G := ⟨_, rfl⟩
  have HGG := Lib.hid hG
  rw [hG] at S2 hz1 ⊢
  clear hG
  obtain ⟨GW, hGW⟩ : ∃ GW, w1.heap.size = GW := ⟨_, rfl⟩
  rw [hGW] at S2 hz1 ⊢
  clear hGW
  go_wp2
  go_loopw [18] (fun vi wl => ∃ t : Nat, vi = .int .i64 (t : Int) ∧ t ≤ 64 ∧ Hid (StepS w G GW (GW + 1) v0 (goW v0 ks ws t) ks ws wl)) (fun vi _ => 64 - (intOf vi).toNat)
  case atStart => exact ⟨0, rfl, Nat.zero_le _, S2.out⟩
  case round =>
    obtain ⟨t, rfl, ht, HK⟩ := hrel
    clear S2
    by_cases hlt : t < 64
    · as_aux_lemma =>
      obtain ⟨v, hv⟩ : ∃ v, goW v0 ks ws t = v := ⟨_, rfl⟩
      have hvo : v.Ok := by rw [← hv]; exact goW_ok v0 ks ws HV.out t
      have hst := HK.out
      rw [hv] at hst
      obtain ⟨ke, hke⟩ : ∃ z, ks.getD t 0 = z := ⟨_, rfl⟩
      obtain ⟨we, hwe⟩ : ∃ z, ws.getD t 0 = z := ⟨_, rfl⟩
      have kl : ke < 4294967296 := by rw [← hke]; exact getD_lt ks 4294967296 (by decide) HKS.out.2.1 _
      have wl : we < 4294967296 := by rw [← hwe]; exact getD_lt ws 4294967296 (by decide) HKS.out.2.2.2 _
      have ck := hst.kk.cell (j := t) (u := v32 ke) (by rw [List.getElem?_map, List.getElem?_eq_getElem (by rw [HKS.out.1]; exact hlt), ← hke, List.getD_eq_getElem?_getD, List.getElem?_eq_getElem (by rw [HKS.out.1]; exact hlt)]; rfl)
      have cw := hst.ww.cell (j := t) (u := v32 we) (by rw [List.getElem?_map, List.getElem?_eq_getElem (by rw [HKS.out.2.2.1]; exact hlt), ← hwe, List.getD_eq_getElem?_getD, List.getElem?_eq_getElem (by rw [HKS.out.2.2.1]; exact hlt)]; rfl)
      obtain ⟨va, vb, vc, vd, ve, vf, vg, vh⟩ := v
      obtain ⟨la, lb, lc, ld, le, lf, lg, lh⟩ := hvo
      simp only at la lb lc ld le lf lg lh
      have x0 := hst.vv.cell (j := 0) (u := v32 va) rfl
      have x1 := hst.vv.cell (j := 1) (u := v32 vb) rfl
      have x2 := hst.vv.cell (j := 2) (u := v32 vc) rfl
      have x3 := hst.vv.cell (j := 3) (u := v32 vd) rfl
      have x4 := hst.vv.cell (j := 4) (u := v32 ve) rfl
      have x5 := hst.vv.cell (j := 5) (u := v32 vf) rfl
      have x6 := hst.vv.cell (j := 6) (u := v32 vg) rfl
      have x7 := hst.vv.cell (j := 7) (u := v32 vh) rfl
      have i1 : (t : Int) < 64 := by omega
      have R6 := Lib.hid (fun W => rq (rot_6 ve le W))
      have R11 := Lib.hid (fun W => rq (rot_11 ve le W))
      have R25 := Lib.hid (fun W => rq (rot_25 ve le W))
      have R2 := Lib.hid (fun W => rq (rot_2 va la W))
      have R13 := Lib.hid (fun W => rq (rot_13 va la W))
      have R22 := Lib.hid (fun W => rq (rot_22 va la W))
      have b1 := bg1_bits ve le
      have b0 := bg0_bits va la
      have bn := not32 ve le
      obtain ⟨nm, hnm⟩ : ∃ z, 4294967295 - ve = z := ⟨_, rfl⟩
      have bc1 := chW_bits ve vf vg le lf lg (nm : Int) (by rw [hnm])
      rw [hnm] at bn
      clear hnm
      have bm := mjW_bits va vb vc la lb lc
      have l1 := bg1_lt ve le
      have l0 := bg0_lt va la
      have l2 := chW_lt ve vf vg le lf lg
      have l3 := mjW_lt va vb vc la lb lc
      have HST0 : Hid (stepW ⟨va, vb, vc, vd, ve, vf, vg, vh⟩ ke we = ⟨((((((vh + bg1 ve) % 4294967296 + chW ve vf vg) % 4294967296 + ke) % 4294967296 + we) % 4294967296) + (bg0 va + mjW va vb vc) % 4294967296) % 4294967296, va, vb, vc, (vd + (((((vh + bg1 ve) % 4294967296 + chW ve vf vg) % 4294967296 + ke) % 4294967296 + we) % 4294967296)) % 4294967296, ve, vf, vg⟩) := rfl
      obtain ⟨o6, ho6⟩ : ∃ z, rotr ve 6 = z := ⟨_, rfl⟩
      obtain ⟨o11, ho11⟩ : ∃ z, rotr ve 11 = z := ⟨_, rfl⟩
      obtain ⟨o25, ho25⟩ : ∃ z, rotr ve 25 = z := ⟨_, rfl⟩
      obtain ⟨o2, ho2⟩ : ∃ z, rotr va 2 = z := ⟨_, rfl⟩
      obtain ⟨o13, ho13⟩ : ∃ z, rotr va 13 = z := ⟨_, rfl⟩
      obtain ⟨o22, ho22⟩ : ∃ z, rotr va 22 = z := ⟨_, rfl⟩
      obtain ⟨g1, hg1⟩ : ∃ z, bg1 ve = z := ⟨_, rfl⟩
      obtain ⟨g0, hg0⟩ : ∃ z, bg0 va = z := ⟨_, rfl⟩
      obtain ⟨ch, hch⟩ : ∃ z, chW ve vf vg = z := ⟨_, rfl⟩
      obtain ⟨mj, hmj⟩ : ∃ z, mjW va vb vc = z := ⟨_, rfl⟩
      rw [ho6] at R6 b1
      rw [ho11] at R11 b1
      rw [ho25] at R25 b1
      rw [ho2] at R2 b0
      rw [ho13] at R13 b0
      rw [ho22] at R22 b0
      rw [hg1] at b1 l1 HST0
      rw [hg0] at b0 l0 HST0
      rw [hch] at bc1 l2 HST0
      rw [hmj] at bm l3 HST0
      obtain ⟨z1, hz1'⟩ : ∃ z, (vh + g1) % 4294967296 = z := ⟨_, rfl⟩
      obtain ⟨z2, hz2⟩ : ∃ z, (z1 + ch) % 4294967296 = z := ⟨_, rfl⟩
      obtain ⟨z3, hz3⟩ : ∃ z, (z2 + ke) % 4294967296 = z := ⟨_, rfl⟩
      obtain ⟨z4, hz4⟩ : ∃ z, (z3 + we) % 4294967296 = z := ⟨_, rfl⟩
      obtain ⟨z5, hz5⟩ : ∃ z, (g0 + mj) % 4294967296 = z := ⟨_, rfl⟩
      obtain ⟨z6, hz6⟩ : ∃ z, (z4 + z5) % 4294967296 = z := ⟨_, rfl⟩
      obtain ⟨z7, hz7⟩ : ∃ z, (vd + z4) % 4294967296 = z := ⟨_, rfl⟩
      rw [hz1', hz2, hz3, hz4, hz5, hz6, hz7] at HST0
      have w1 : IntKind.u32.wrap ((vh : Int) + (g1 : Int)) = (z1 : Int) := by rw [IntKind.wrap_u32]; omega
      have w2 : IntKind.u32.wrap ((z1 : Int) + (ch : Int)) = (z2 : Int) := by rw [IntKind.wrap_u32]; omega
      have w3 : IntKind.u32.wrap ((z2 : Int) + (ke : Int)) = (z3 : Int) := by rw [IntKind.wrap_u32]; omega
      have w4 : IntKind.u32.wrap ((z3 : Int) + (we : Int)) = (z4 : Int) := by rw [IntKind.wrap_u32]; omega
      have w5 : IntKind.u32.wrap ((g0 : Int) + (mj : Int)) = (z5 : Int) := by rw [IntKind.wrap_u32]; omega
      have w6 : IntKind.u32.wrap ((z4 : Int) + (z5 : Int)) = (z6 : Int) := by rw [IntKind.wrap_u32]; omega
      have w7 : IntKind.u32.wrap ((vd : Int) + (z4 : Int)) = (z7 : Int) := by rw [IntKind.wrap_u32]; omega
      have y6 : ((z4 : Int) + (z5 : Int)) % 4294967296 = (z6 : Int) := by omega
      have y7 : ((vd : Int) + (z4 : Int)) % 4294967296 = (z7 : Int) := by omega
      have y1 : ((vh : Int) + (g1 : Int)) % 4294967296 = (z1 : Int) := by omega
      have y2 : ((z1 : Int) + (ch : Int)) % 4294967296 = (z2 : Int) := by omega
      have y3 : ((z2 : Int) + (ke : Int)) % 4294967296 = (z3 : Int) := by omega
      have y4 : ((z3 : Int) + (we : Int)) % 4294967296 = (z4 : Int) := by omega
      have y5 : ((g0 : Int) + (mj : Int)) % 4294967296 = (z5 : Int) := by omega
      have y8 : ((z1 : Int) + (ch : Int) + (ke : Int) + (we : Int)) % 4294967296 = (z4 : Int) := by omega
      have y9 : ((vh : Int) + (g1 : Int) + (ch : Int) + (ke : Int) + (we : Int)) % 4294967296 = (z4 : Int) := by omega
      have HNX : Hid (goW v0 ks ws (t + 1) = ⟨z6, va, vb, vc, z7, ve, vf, vg⟩) := by
        unfold Hid
        show stepW (goW v0 ks ws t) (ks.getD t 0) (ws.getD t 0) = _
        rw [hv, hke, hwe]
        exact HST0.out
      have HS0 := Lib.hid hst
      clear hst HK ho6 ho11 ho25 ho2 ho13 ho22 hg1 hg0 hch hmj hz1' hz2 hz3 hz4 hz5 hz6 hz7 hv hke hwe HST0
      go_wp2_with fail
      go_quiet (fail)
      have HS1 := Lib.hid (HS0.out.drewN nq)
      have ck1 : (wr.drewN nq).cell? ⟨G + 1 + 1, t, none⟩ = some (v32 ke) := ck
      have cw1 : (wr.drewN nq).cell? ⟨GW, t, none⟩ = some (v32 we) := cw
      clear ck cw x0 x1 x2 x3 x4 x5 x6 x7 HS0
      generalize wr.drewN nq = wq at HS1 ck1 cw1 ⊢
      obtain ⟨x0, x1, x2, x3, x4, x5, x6, x7⟩ := HS1.out.cells
      go_wp2_with fail
      go_quiet (first
        | (go_at_call 38; (with_reducible exact Calls.quiet_of_same (R6.out _)))
        | (go_at_call 38; (with_reducible exact Calls.quiet_of_same (R11.out _)))
        | (go_at_call 38; (with_reducible exact Calls.quiet_of_same (R25.out _))))
      have HS2 := Lib.hid (HS1.out.drewN nq)
      clear x0 x1 x2 x3 x4 x5 x6 x7 HS1 ck1 cw1
      generalize wq.drewN nq = wp at HS2 ⊢
      obtain ⟨x0, x1, x2, x3, x4, x5, x6, x7⟩ := HS2.out.cells
      go_wp2_with fail
      go_quiet (first
        | (go_at_call 38; (with_reducible exact Calls.quiet_of_same (R2.out _)))
        | (go_at_call 38; (with_reducible exact Calls.quiet_of_same (R13.out _)))
        | (go_at_call 38; (with_reducible exact Calls.quiet_of_same (R22.out _))))
      have HS3 := Lib.hid (HS2.out.drewN nq)
      clear x0 x1 x2 x3 x4 x5 x6 x7 HS2
      generalize wp.drewN nq = wz at HS3 ⊢
      obtain ⟨x0, x1, x2, x3, x4, x5, x6, x7⟩ := HS3.out.cells
      obtain ⟨d8, hd8⟩ : ∃ d, ((⟨z6, va, vb, vc, z7, ve, vf, vg⟩ : V8).list.map v32).toArray = d := ⟨_, rfl⟩
      have VV : Hid (wz.heap[GW + 1]? = some (.cells ((⟨va, vb, vc, vd, ve, vf, vg, vh⟩ : V8).list.map v32).toArray 34 (0, 0))) := HS3.out.vv
      clear b0 b1 bc1 bm bn w1 w2 w3 w4 w5 y1 y2 y3 y4 y5 y8 y9 R6 R11 R25 R2 R13 R22 hd8
      go_wp2_with (first | (refine wpList_b8 rfl _ _ _ _ _ _ _ _ rfl _ rfl (z6 : Int) (va : Int) (vb : Int) (vc : Int) (z7 : Int) (ve : Int) (vf : Int) (vg : Int) rfl rfl rfl rfl rfl rfl rfl rfl ?_) | (refine wpList_store_row rfl _ _ _ rfl (GW + 1) #[.int .u32 (z6 : Int), .int .u32 (va : Int), .int .u32 (vb : Int), .int .u32 (vc : Int), .int .u32 (z7 : Int), .int .u32 (ve : Int), .int .u32 (vf : Int), .int .u32 (vg : Int)] rfl rfl _ _ VV.out (by kernel_rfl) (by kernel_rfl) (all32 [z6, va, vb, vc, z7, ve, vf, vg]) ?_))
      have HF : Hid (StepS w G GW (GW + 1) v0 (goW v0 ks ws (t + 1)) ks ws (wz.setRow (GW + 1) ((⟨z6, va, vb, vc, z7, ve, vf, vg⟩ : V8).list.map v32).toArray)) := by
        obtain ⟨q1, q2, q3, q4, q5, q6⟩ := HS3.out
        rw [HNX.out]
        refine ⟨?_, ?_, ?_, ?_, ?_, below_setRow q6 (by omega) _⟩
        · unfold ArrIs; rw [setRow_other _ _ _ _ (by omega)]; exact q1
        · unfold ArrIs; rw [setRow_other _ _ _ _ (by omega)]; exact q2
        · unfold ArrIs; rw [setRow_other _ _ _ _ (by omega)]; exact q3
        · unfold ArrIs; rw [setRow_other _ _ _ _ (by omega)]; exact q4
        · exact setRow_heap _ _ _ _ _ _ q5
      clear x0 x1 x2 x3 x4 x5 x6 x7 HS3 VV w6 w7 y6 y7
      go_wp2
      go_roundw
      case rel => exact ⟨t + 1, by go_num, by omega, HF.out⟩
      case measure => simp [intOf]; omega
    · as_aux_lemma =>
      have i1 : ¬ (t : Int) < 64 := by omega
      obtain ⟨u, hu⟩ : ∃ u, goW v0 ks ws t = u := ⟨_, rfl⟩
      have huo : u.Ok := by rw [← hu]; exact goW_ok v0 ks ws HV.out t
      have hst := HK.out
      rw [hu] at hst
      have HU : Hid (blockW v0 ks bs = addV v0 u) := by
        unfold Hid
        rw [HBW.out, ← hu, show t = 64 by omega]
      have S3 : Hid (ArrIs wr G 34 ((mixL v0 u 0).map v32) ∧ ArrIs wr (GW + 1) 34 (u.list.map v32) ∧ ArrIs wr (G + 1 + 1 + 1) 34 (List.replicate 8 (.int .u32 0)) ∧ Below G w wr) := ⟨hst.ss, hst.vv, hst.rr, hst.bb⟩
      have HVM := Lib.hid HV.out.mem
      have HUM := Lib.hid huo.mem
      clear hu huo hst HK
      go_wp2
      go_loopw [98] (fun vi wl => ∃ i : Nat, vi = .int .i64 (i : Int) ∧ i ≤ 8 ∧ Hid (ArrIs wl G 34 ((mixL v0 u i).map v32) ∧ ArrIs wl (GW + 1) 34 (u.list.map v32) ∧ ArrIs wl (G + 1 + 1 + 1) 34 (List.replicate 8 (.int .u32 0)) ∧ Below G w wl)) (fun vi _ => 8 - (intOf vi).toNat)
      case atStart => exact ⟨0, rfl, Nat.zero_le _, S3.out⟩
      case round =>
        obtain ⟨i, rfl, hi, HK⟩ := hrel
        clear S3
        by_cases hi8 : i < 8
        · as_aux_lemma =>
          obtain ⟨p, q, hp, hq, hm, hnx⟩ := mixL_get v0 u i hi8
          obtain ⟨a0, a1, a2, hb⟩ := HK.out
          have lp := HVM.out p (List.mem_of_getElem? hp)
          have lq := HUM.out q (List.mem_of_getElem? hq)
          have c0' := a0.cell (j := i) (u := v32 p) (by rw [List.getElem?_map, hm]; rfl)
          have c1' := a1.cell (j := i) (u := v32 q) (by rw [List.getElem?_map, hq]; rfl)
          have f0 := a0.free i
          obtain ⟨z, hz⟩ : ∃ z, (p + q) % 4294967296 = z := ⟨_, rfl⟩
          rw [hz] at hnx
          have HN : Hid (ArrIs (wr.setCell ⟨G, i, none⟩ (.int .u32 (z : Int))) G 34 ((mixL v0 u (i + 1)).map v32) ∧ ArrIs (wr.setCell ⟨G, i, none⟩ (.int .u32 (z : Int))) (GW + 1) 34 (u.list.map v32) ∧ ArrIs (wr.setCell ⟨G, i, none⟩ (.int .u32 (z : Int))) (G + 1 + 1 + 1) 34 (List.replicate 8 (.int .u32 0)) ∧ Below G w (wr.setCell ⟨G, i, none⟩ (.int .u32 (z : Int)))) := by
            refine ⟨?_, a1.far (by omega), a2.far (by omega), hb.setCell (Nat.le_refl _) _⟩
            rw [hnx, List.map_set]
            exact a0.set i _
          have w1 : IntKind.u32.wrap ((p : Int) + (q : Int)) = (z : Int) := by rw [IntKind.wrap_u32]; omega
          have y1 : ((p : Int) + (q : Int)) % 4294967296 = (z : Int) := by omega
          have i2 : (i : Int) < 8 := by omega
          clear hp hq hm hnx hz a0 a1 a2 hb HK
          go_wp2_with fail
          go_region
          all_goals
            clear w1 y1
            go_wp2
            go_roundw
            case rel => exact ⟨i + 1, by go_num, by omega, HN.out.1, HN.out.2.1, HN.out.2.2.1, HN.out.2.2.2.drew⟩
            case measure => simp [intOf]; omega
        · as_aux_lemma =>
          have i2 : ¬ (i : Int) < 8 := by omega
          obtain ⟨a0, a1, a2, hb⟩ := HK.out
          rw [show i = 8 by omega, mixL_full] at a0
          obtain ⟨ds, hds⟩ : ∃ ds, ((addV v0 u).list.map v32).toArray = ds := ⟨_, rfl⟩
          have hone : ds.all (·.oneCell') = true := by rw [← hds]; exact all32 _
          have hsz : ds.size = 8 := by rw [← hds]; rfl
          have hif : (Try.prog.info? 34).map (·.size) = some ds.size := by rw [hsz]; kernel_rfl
          have A1 : Hid (wr.heap[G]? = some (.cells ds 34 (0, 0))) := by rw [← hds]; exact a0
          have A0 : Hid (wr.heap[G + 1 + 1 + 1]? = some (.cells (List.replicate 8 (.int .u32 0)).toArray 34 (0, 0))) := a2
          have AR : Hid ((wr.setRow (G + 1 + 1 + 1) ds).heap[G + 1 + 1 + 1]? = some (.cells ds 34 (0, 0))) := setRow_heap wr _ _ _ _ _ a2
          have HB := Lib.hid (below_setRow hb (show G ≤ G + 1 + 1 + 1 by omega) ds)
          have HDS := Lib.hid hds
          have HC := Lib.hid (show _ ∧ _ ∧ _ from ⟨hsz, hone, hif⟩)
          clear hds a0 a1 a2 hb hsz hone hif HK
          go_wp2_with (first
            | (refine wpList_load_row rfl _ _ rfl G rfl _ _ _ _ A1.out Try.underlying34 rfl HC.out.2.2 ?_)
            | (refine wpList_store_row rfl _ _ _ rfl (G + 1 + 1 + 1) ds rfl rfl _ _ A0.out HC.out.2.2 (by rw [HC.out.1]; rfl) HC.out.2.1 ?_))
          refine bodyPost_ret (results_cell_row rfl _ _ (G + 1 + 1 + 1) _ _ _ _ rfl AR.out Try.underlying34 rfl HC.out.2.2) rfl ?_
          exact ⟨by rw [HU.out, HDS.out], by rw [HGG.out]; exact HB.out⟩
end Go.Proofs.Ytmbkbehccmadfaa
