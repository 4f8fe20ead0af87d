/-
  cert: the extensions
-/
import Derived.Test.YtomolfdcdmncoaaCc2
import Derived.Great.BuildSlice
import Derived.Laws.Tables
import Derived.Laws.CopyOwn
import Derived.Deep.MidRow
import Derived.Deep.RegionHeld3
import Derived.Recover
namespace Go.Proofs.Ytomolfdcdmncoaa
open Go.RowKit Go
set_option linter.unusedVariables false
set_option linter.unusedSimpArgs false
set_option maxRecDepth 100000
def SO {α : Type} (q1 q2 : Nat) (w : World) (o : Option α) (R : α → Ending → World → Prop) (e : Ending) (w' : World) : Prop := (match o with
  | none => e = .panicked [flt]
  | some x => R x e w') ∧ G2 q1 q2 w w'
section
variable {α : Type} {q1 q2 : Nat} {w w' : World} {o : Option α} {x : α} {R : α → Ending → World → Prop} {e : Ending}
theorem SO.no (hp : SO q1 q2 w o R e w') (h : o = none) : e = .panicked [flt] ∧ G2 q1 q2 w w' := by subst h; exact hp
theorem SO.yes (hp : SO q1 q2 w o R e w') (h : o = some x) : R x e w' ∧ G2 q1 q2 w w' := by subst h; exact hp
theorem SO.mkNo (h : o = none) (hb : G2 q1 q2 w w') : SO q1 q2 w o R (.panicked [flt]) w' := by subst h; exact ⟨rfl, hb⟩
theorem SO.mk (h : o = some x) (hr : R x e w') (hb : G2 q1 q2 w w') : SO q1 q2 w o R e w' := by subst h; exact ⟨hr, hb⟩
end
set_option maxHeartbeats 16000000 in
theorem extensions_any (pc : Nat) (l : List Value) (hl : l.length = 20) (x0 : Xt) (pr base : Nat) (vs0 : List EV) (w : World) (hc : w.heap[pc]? = some (.cells (xtC l x0) 33)) (hr : RowP w base pr vs0) :
    Calls Try.prog 67 #[.pointer (some ⟨pc, 0, none⟩), .pointer (some ⟨pr, 0, none⟩)] w (SO pc pr w (esQ (vs0.map EV.el) x0) (XR l pc)) := by
  have hpcl := block_lt hc
  have hprl := hr.lt
  have hpp : pc ≠ pr := by
    intro e
    subst e
    obtain ⟨cs, h⟩ := hr.block
    rw [hc] at h
    injection h with h
    injection h with _ h
    revert h
    decide
  have HC := Lib.hid hc
  have R := Lib.hid hr
  clear hc hr
  have MK : ∀ W : World, (Instr.makeMap 127 none).run Try.prog W = .ok (.map (some W.heap.size)) (W.alloc (.map #[] 0)) := fun W => rfl
  rcases vs0 with _ | ⟨v0, us0⟩
  · go_enter Try.func67, Try.ntmps67
    go_wp2_with fail
    refine (cmore_any pr [] _ _ R.out).mono ?_
    rintro e1 W1 ⟨rfl, rfl⟩
    go_wp2_with fail
    refine (need_no _).mono ?_
    rintro e2 W2 ⟨rfl, rfl⟩
    go_wp2
    exact ⟨rfl, SO.mkNo rfl (G2.refl _ _ _)⟩
  have hmr := cmore_any pr (v0 :: us0) _ _ R.out
  rw [show decide (0 < (v0 :: us0).length) = true by simp] at hmr
  go_enter Try.func67, Try.ntmps67
  go_wp2_with fail
  refine hmr.mono ?_
  rintro e1 W1 ⟨rfl, rfl⟩
  clear hmr
  go_wp2_with fail
  refine (need_yes _).mono ?_
  rintro e2 W2 ⟨rfl, rfl⟩
  have HP : Hid (esQ ((v0 :: us0).map EV.el) x0 = esG ((v0 :: us0).map EV.el) [] x0) := Lib.hid rfl
  go_upto_region 2 with (fail)
  obtain ⟨B, hB⟩ : ∃ B, W2.heap.size = B := ⟨_, rfl⟩
  refine wp_nm fun W3 hW3 => ?_
  have M : Hid (MapS W3 B []) := by rw [← hW3, ← hB]; exact Lib.hid (MapS.new _)
  have hb := kp_alloc (Below.refl W2.heap.size W2) (.map #[] 0)
  rw [hW3] at hb
  replace HC := Lib.hid (has_below HC.out hb)
  replace R := Lib.hid (R.out.below hb)
  have G := Lib.hid ((G2.refl pc pr W2).call hb)
  have HBB := Lib.hid (Nat.le_of_eq hB)
  try rw [hB]
  clear hb hW3 hB MK
  obtain ⟨E0, hE0⟩ : ∃ E0, esQ ((v0 :: us0).map EV.el) x0 = E0 := ⟨_, rfl⟩
  rw [hE0] at HP ⊢
  obtain ⟨ys0, hys0⟩ : ∃ ys, v0 :: us0 = ys := ⟨_, rfl⟩
  rw [hys0] at HP R
  clear hE0 hys0
  go_wp2_with fail
  go_loopw [] (fun wl => ∃ (ys : List EV) (seen : List (List UInt8)) (x : Xt), Hid (RowP wl base pr ys) ∧ Hid (wl.heap[pc]? = some (.cells (xtC l x) 33)) ∧ Hid (MapS wl B seen) ∧ Hid (G2 pc pr W2 wl) ∧ Hid (E0 = esG (ys.map EV.el) seen x)) (fun wl => boxLen pr wl)
  case atStart => exact ⟨ys0, [], x0, R, HC, M, G, HP⟩
  case round =>
    obtain ⟨ys, seen, x, R, HC, M, G, HP⟩ := hrel
    have hBl := HBB.out
    rcases ys with _ | ⟨v, ys⟩
    · skip
      go_wp2_with fail
      refine (cmore_any pr [] _ _ R.out).mono ?_
      rintro e4 W4 ⟨rfl, rfl⟩
      go_wp2
      go_end0
      exact SO.mk (x := x) (by rw [HP.out]; rfl) ⟨rfl, HC.out⟩ G.out
    have hmr := cmore_any pr (v :: ys) _ _ R.out
    rw [show decide (0 < (v :: ys).length) = true by simp] at hmr
    have HBX := Lib.hid R.out.box
    go_wp2_with fail
    refine hmr.mono ?_
    rintro e4 W4 ⟨rfl, rfl⟩
    clear hmr
    go_wp2_with fail
    refine (cnext_any pr v ys _ _ R.out).mono ?_
    rintro e5 W5 ⟨rfl, hR, hE, hg⟩
    obtain ⟨cs0, hq0⟩ := R.out.block
    replace G := Lib.hid (G.out.grown hg (by omega))
    replace HC := Lib.hid (has_grown HC.out hg (by omega))
    replace M := Lib.hid (M.out.same (hg.block _ M.out.lt (fun e => by injection e with e; omega)))
    clear hq0 cs0 hg
    replace R := Lib.hid hR
    have X1 := Lib.hid hE
    clear hR hE
    go_wp2_with fail
    refine (within_any v 48 48 rfl _ X1.out.vv).mono ?_
    rintro e6 W6 hp
    cases hq : wiQ v.el 48 with
    | none =>
      obtain ⟨rfl, hb⟩ := hp.no hq
      go_wp2
      exact ⟨rfl, SO.mkNo (by rw [HP.out]; simp only [esG, oxQ, Option.bind_some, Option.bind_none, nxQ, enQ, List.map_cons, List.map_nil, hq]) (G.out.call hb)⟩
    | some q6 =>
      obtain ⟨⟨px, zs, rfl, hpl, rfl, hR, FAR6⟩, hb⟩ := hp.yes hq
      have HQ6 := Lib.hid hq
      clear hq hp
      have lt6R := Nat.lt_of_lt_of_le R.out.lt hpl
      have lt6HC := Nat.lt_of_lt_of_le (block_lt HC.out) hpl
      have lt6M := Nat.lt_of_lt_of_le M.out.lt hpl
      have lw6 : W2.heap.size ≤ px := Nat.le_trans G.out.size hpl
      clear FAR6
      replace G := Lib.hid (G.out.call hb)
      replace R := Lib.hid (R.out.below hb)
      replace HC := Lib.hid (has_below HC.out hb)
      replace M := Lib.hid (M.out.below hb)
      replace X1 := Lib.hid (X1.out.below hb)
      clear hb
      have RX := Lib.hid hR
      clear hR hpl
      clear X1
      rcases zs with _ | ⟨nm, zs1⟩
      · skip
        go_wp2_with fail
        refine (cnext_nil px _ _ RX.out).mono ?_
        rintro e7 W7 ⟨rfl, hb⟩
        go_wp2
        exact ⟨rfl, SO.mkNo (by rw [HP.out]; simp only [esG, oxQ, Option.bind_some, Option.bind_none, nxQ, enQ, List.map_cons, List.map_nil, HQ6.out]) (G.out.call hb)⟩
      go_wp2_with fail
      refine (cnext_any px nm zs1 _ _ RX.out).mono ?_
      rintro e7 W7 ⟨rfl, hR, hE, hg⟩
      obtain ⟨cs0, hq0⟩ := RX.out.block
      replace G := Lib.hid (G.out.grown hg (by omega))
      replace R := Lib.hid (R.out.kept hg hq0 (by decide) (by decide) (by omega))
      replace HC := Lib.hid (has_grown HC.out hg (by omega))
      replace M := Lib.hid (M.out.same (hg.block _ M.out.lt (fun e => by injection e with e; omega)))
      clear hq0 cs0 hg
      replace RX := Lib.hid hR
      have XN := Lib.hid hE
      clear hR hE
      go_upto_region 5 with (fail)
      refine wp_nm fun W8 hWn => ?_
      obtain ⟨g6, hg⟩ : ∃ g6, W7.heap.size = g6 := ⟨_, rfl⟩
      have hb := kp_alloc (Below.refl W7.heap.size W7) (.cells #[.int .u8 (nm.tag.toNat : Int), .slice nm.ba nm.bn nm.bc, .slice nm.ra nm.rn nm.rc] 46)
      have hz := has_new W7 (.cells #[.int .u8 (nm.tag.toNat : Int), .slice nm.ba nm.bn nm.bc, .slice nm.ra nm.rn nm.rc] 46)
      rw [hWn] at hb hz
      rw [hg] at hz
      try rw [hg]
      have lt8R := Nat.lt_of_lt_of_le R.out.lt (Nat.le_of_eq hg)
      have lt8HC := Nat.lt_of_lt_of_le (block_lt HC.out) (Nat.le_of_eq hg)
      have lt8M := Nat.lt_of_lt_of_le M.out.lt (Nat.le_of_eq hg)
      have lt8RX := Nat.lt_of_lt_of_le RX.out.lt (Nat.le_of_eq hg)
      have lg8 : W2.heap.size ≤ g6 := by have := G.out.size; omega
      have Z := Lib.hid hz
      clear hWn hz hg
      replace G := Lib.hid (G.out.call hb)
      replace R := Lib.hid (R.out.below hb)
      replace HC := Lib.hid (has_below HC.out hb)
      replace M := Lib.hid (M.out.below hb)
      replace RX := Lib.hid (RX.out.below hb)
      replace XN := Lib.hid (XN.out.below hb)
      clear hb
      obtain ⟨n0, n1, n2⟩ := cells_3 Z.out
      go_wp2_with fail
      refine (coid_any nm _ XN.out.vv).mono ?_
      rintro e9 W9 hp
      cases hq : odQ nm.el with
      | none =>
        obtain ⟨rfl, hb⟩ := hp.no hq
        go_wp2
        exact ⟨rfl, SO.mkNo (by rw [HP.out]; simp only [esG, oxQ, Option.bind_some, Option.bind_none, nxQ, enQ, List.map_cons, List.map_nil, HQ6.out, hq]) (G.out.call hb)⟩
      | some q9 =>
        obtain ⟨⟨AA, an, ac, rfl, hoa⟩, hb⟩ := hp.yes hq
        have HQ9 := Lib.hid hq
        clear hq hp
        replace G := Lib.hid (G.out.call hb)
        replace R := Lib.hid (R.out.below hb)
        replace HC := Lib.hid (has_below HC.out hb)
        replace M := Lib.hid (M.out.below hb)
        replace RX := Lib.hid (RX.out.below hb)
        replace XN := Lib.hid (XN.out.below hb)
        replace Z := Lib.hid (has_below Z.out hb)
        clear hb
        have OA := Lib.hid hoa
        have hla := hoa.len
        rw [List.length_map, Nat.mul_one] at hla
        have HLA := Lib.hid hla
        clear hoa hla n0 n1 n2
        obtain ⟨n0, n1, n2⟩ := cells_3 Z.out
        have hbl := XN.out.b.len
        have hcv : (convert 22 9 (.slice nm.ba nm.bn nm.bc)).run Try.prog W9 = .ok (.string (strOf nm.body)) W9 := by
          have h9 := run_strOf W9 _ nm.ba nm.body nm.bc XN.out.b.reads
          rw [hbl] at h9
          exact h9
        clear hbl
        by_cases hsn : nm.body ∈ seen
        · have HLK := Lib.hid (slook M.out nm.body)
          rw [decide_eq_true hsn] at HLK
          have HG := Lib.hid (gd_no (p := ¬ nm.el.2 ∈ seen) (fun h => h hsn))
          go_wp2_with (first | fail | (at_lookup; refine wpList_slook rfl _ _ _ rfl B rfl (.string (strOf nm.body)) rfl (.bool true) HLK.out ?_))
          refine (need_no _).mono ?_
          rintro e9 W9 ⟨rfl, rfl⟩
          go_wp2
          exact ⟨rfl, SO.mkNo (by rw [HP.out]; simp only [esG, oxQ, Option.bind_some, Option.bind_none, nxQ, enQ, List.map_cons, List.map_nil, HQ6.out, HQ9.out, HG.out]) G.out⟩
        have HLK := Lib.hid (slook M.out nm.body)
        rw [decide_eq_false hsn] at HLK
        have HG := Lib.hid (gd_yes (p := ¬ nm.el.2 ∈ seen) hsn)
        go_wp2_with (first | fail | (at_lookup; refine wpList_slook rfl _ _ _ rfl B rfl (.string (strOf nm.body)) rfl (.bool false) HLK.out ?_))
        refine (need_yes _).mono ?_
        rintro e9 W9 ⟨rfl, rfl⟩
        obtain ⟨W10, hru, hM, hg⟩ := supd M.out nm.body hsn
        have HU := Lib.hid hru
        clear hru HLK
        go_upto_region 8 with (at_mapUpdate; refine wpList_supd rfl _ _ _ _ rfl rfl B rfl (.string (strOf nm.body)) rfl (.bool true) rfl HU.out ?_)
        replace G := Lib.hid (G.out.grown hg (by omega))
        replace HC := Lib.hid (has_grown HC.out hg (by omega))
        replace R := Lib.hid (R.out.keptM hg M.out)
        replace RX := Lib.hid (RX.out.keptM hg M.out)
        replace OA := Lib.hid (OA.out.keptM hg M.out)
        replace M := Lib.hid hM
        clear hM hg HU hcv n0 n1 n2 hsn Z XN
        rcases zs1 with _ | ⟨y, zs2⟩
        · skip
          go_wp2_with fail
          refine (nextIs_nil px 1 _ _ RX.out).mono ?_
          rintro e11 W11 ⟨rfl, rfl⟩
          go_wp2_with fail
          refine (cnext_nil px _ _ RX.out).mono ?_
          rintro e12 W12 ⟨rfl, hb⟩
          go_wp2
          exact ⟨rfl, SO.mkNo (by rw [HP.out]; simp only [esG, oxQ, Option.bind_some, Option.bind_none, nxQ, enQ, List.map_cons, List.map_nil, HQ6.out, HQ9.out, HG.out]) (G.out.call hb)⟩
        have HTY := Lib.hid (show tg y.el = y.tag.toNat from by
          obtain ⟨_, _, _, _, _, _, _, hy⟩ := RX.out
          exact ((hy.els y (by simp)).vv).tgq)
        by_cases hy1 : y.tag.toNat = 1
        · have hd : ((y.tag.toNat : Int) == 1) = true := by rw [hy1]; rfl
          have HIF := Lib.hid (show tg y.el = 1 from HTY.out.trans hy1)
          go_wp2_with fail
          refine (nextIs_any px y zs2 1 true hd _ _ RX.out).mono ?_
          rintro e11 W11 ⟨rfl, rfl⟩
          clear hd hy1
          go_wp2_with fail
          refine (cnext_any px y zs2 _ _ RX.out).mono ?_
          rintro e12 W12 ⟨rfl, hR, hE, hg⟩
          obtain ⟨cs0, hq0⟩ := RX.out.block
          replace G := Lib.hid (G.out.grown hg (by omega))
          replace R := Lib.hid (R.out.kept hg hq0 (by decide) (by decide) (by omega))
          replace HC := Lib.hid (has_grown HC.out hg (by omega))
          replace M := Lib.hid (M.out.same (hg.block _ M.out.lt (fun e => by injection e with e; omega)))
          replace OA := Lib.hid (OA.out.keptK hg hq0 (by decide))
          clear hq0 cs0 hg
          replace RX := Lib.hid hR
          have XY := Lib.hid hE
          clear hR hE
          go_wp2_with fail
          refine (isTrue_any y _ XY.out.vv).mono ?_
          rintro e13 W13 hp
          cases hq : itQ y.el with
          | none =>
            obtain ⟨rfl, hb⟩ := hp.no hq
            go_wp2
            exact ⟨rfl, SO.mkNo (by rw [HP.out]; simp only [esG, oxQ, Option.bind_some, Option.bind_none, nxQ, enQ, List.map_cons, List.map_nil, HQ6.out, HQ9.out, HG.out, if_pos (c := tg y.el = 1) HIF.out, hq]) (G.out.call hb)⟩
          | some q13 =>
            obtain ⟨rfl, hb⟩ := hp.yes hq
            have HQ13 := Lib.hid hq
            clear hq hp
            replace G := Lib.hid (G.out.call hb)
            replace R := Lib.hid (R.out.below hb)
            replace HC := Lib.hid (has_below HC.out hb)
            replace M := Lib.hid (M.out.below hb)
            replace RX := Lib.hid (RX.out.below hb)
            replace OA := Lib.hid (OA.out.below hb (Nat.le_refl _))
            replace XY := Lib.hid (XY.out.below hb)
            clear hb
            clear XY
            obtain ⟨zz, hzz⟩ : ∃ zz, zs2 = zz := ⟨_, rfl⟩
            subst hzz
            rcases zs2 with _ | ⟨oc, zz1⟩
            · skip
              go_wp2_with fail
              refine (cnext_nil px _ _ RX.out).mono ?_
              rintro e14 W14 ⟨rfl, hb⟩
              go_wp2
              exact ⟨rfl, SO.mkNo (by rw [HP.out]; simp only [esG, oxQ, Option.bind_some, Option.bind_none, nxQ, enQ, List.map_cons, List.map_nil, HQ6.out, HQ9.out, HG.out, if_pos (c := tg y.el = 1) HIF.out, HQ13.out]) (G.out.call hb)⟩
            go_wp2_with fail
            refine (cnext_any px oc zz1 _ _ RX.out).mono ?_
            rintro e14 W14 ⟨rfl, hR, hE, hg⟩
            obtain ⟨cs0, hq0⟩ := RX.out.block
            replace G := Lib.hid (G.out.grown hg (by omega))
            replace R := Lib.hid (R.out.kept hg hq0 (by decide) (by decide) (by omega))
            replace HC := Lib.hid (has_grown HC.out hg (by omega))
            replace M := Lib.hid (M.out.same (hg.block _ M.out.lt (fun e => by injection e with e; omega)))
            replace OA := Lib.hid (OA.out.keptK hg hq0 (by decide))
            clear hq0 cs0 hg
            replace RX := Lib.hid hR
            have XO := Lib.hid hE
            clear hR hE
            go_upto_region 12 with (fail)
            refine wp_nm fun W15 hWn => ?_
            obtain ⟨g9, hg⟩ : ∃ g9, W14.heap.size = g9 := ⟨_, rfl⟩
            have hb := kp_alloc (Below.refl W14.heap.size W14) (.cells #[.int .u8 (oc.tag.toNat : Int), .slice oc.ba oc.bn oc.bc, .slice oc.ra oc.rn oc.rc] 46)
            have hz := has_new W14 (.cells #[.int .u8 (oc.tag.toNat : Int), .slice oc.ba oc.bn oc.bc, .slice oc.ra oc.rn oc.rc] 46)
            rw [hWn] at hb hz
            rw [hg] at hz
            try rw [hg]
            have lt15R := Nat.lt_of_lt_of_le R.out.lt (Nat.le_of_eq hg)
            have lt15HC := Nat.lt_of_lt_of_le (block_lt HC.out) (Nat.le_of_eq hg)
            have lt15M := Nat.lt_of_lt_of_le M.out.lt (Nat.le_of_eq hg)
            have lt15RX := Nat.lt_of_lt_of_le RX.out.lt (Nat.le_of_eq hg)
            have lg15 : W2.heap.size ≤ g9 := by have := G.out.size; omega
            have ZO := Lib.hid hz
            clear hWn hz hg
            replace G := Lib.hid (G.out.call hb)
            replace R := Lib.hid (R.out.below hb)
            replace HC := Lib.hid (has_below HC.out hb)
            replace M := Lib.hid (M.out.below hb)
            replace RX := Lib.hid (RX.out.below hb)
            replace OA := Lib.hid (OA.out.below hb (Nat.le_refl _))
            replace XO := Lib.hid (XO.out.below hb)
            clear hb
            obtain ⟨o0, o1, o2⟩ := cells_3 ZO.out
            have HT4 := Lib.hid XO.out.vv.tgq
            by_cases hc16 : oc.tag.toNat = 4
            rotate_left
            · skip
              have p4 : ((oc.tag.toNat : Int) == 4) = false := beq_eq_false_iff_ne.2 (by omega)
              go_wp2_with fail
              refine (need_no _).mono ?_
              rintro e16 W16 ⟨rfl, rfl⟩
              have HN16 := Lib.hid (gd_no (p := tg oc.el = 4) (by rw [HT4.out]; exact hc16))
              go_wp2
              exact ⟨rfl, SO.mkNo (by rw [HP.out]; simp only [esG, oxQ, Option.bind_some, Option.bind_none, nxQ, enQ, List.map_cons, List.map_nil, HQ6.out, HQ9.out, HG.out, if_pos (c := tg y.el = 1) HIF.out, HQ13.out, HN16.out]) G.out⟩
            have p4 : ((oc.tag.toNat : Int) == 4) = true := by rw [hc16]; rfl
            go_wp2_with fail
            refine (need_yes _).mono ?_
            rintro e16 W16 ⟨rfl, rfl⟩
            have HN16 := Lib.hid (gd_yes (p := tg oc.el = 4) (by rw [HT4.out]; exact hc16))
            clear p4
            rcases zz1 with _ | ⟨vx, vxs⟩
            rotate_left
            · skip
              go_wp2_with fail
              refine (cend_no px vx vxs _ _ RX.out).mono ?_
              rintro e17 W17 ⟨rfl, rfl⟩
              go_wp2
              exact ⟨rfl, SO.mkNo (by rw [HP.out]; simp only [esG, oxQ, Option.bind_some, Option.bind_none, nxQ, enQ, List.map_cons, List.map_nil, HQ6.out, HQ9.out, HG.out, if_pos (c := tg y.el = 1) HIF.out, HQ13.out, HN16.out]) G.out⟩
            go_wp2_with fail
            refine (cend_yes px _ _ RX.out).mono ?_
            rintro e17 W17 ⟨rfl, rfl⟩
            go_wp2_with fail
            refine (extension_any pc l hl x AA an ac q9 true oc.ba oc.bn oc.bc oc.body _ HC.out OA.out.reads HLA.out OA.out.cap.1 OA.out.cap.2 XO.out.b.rb XO.out.b.cap.1 XO.out.b.cap.2 XO.out.bl).mono ?_
            rintro e20 W20 hp
            cases hq : exQ x q9 true oc.body with
            | none =>
              obtain ⟨rfl, hg⟩ := hp.no hq
              have hq2 : exQ x q9 true oc.el.2 = none := hq
              go_wp2
              exact ⟨rfl, SO.mkNo (by rw [HP.out]; simp only [esG, oxQ, Option.bind_some, Option.bind_none, nxQ, enQ, List.map_cons, List.map_nil, HQ6.out, HQ9.out, HG.out, if_pos (c := tg y.el = 1) HIF.out, HQ13.out, HN16.out, hq2]) (G.out.grown hg (by omega))⟩
            | some x' =>
              obtain ⟨⟨rfl, hx'⟩, hg⟩ := hp.yes hq
              have hq2 : exQ x q9 true oc.el.2 = some x' := hq
              have HN : Hid (E0 = esG (ys.map EV.el) (nm.body :: seen) x') := Lib.hid (by rw [HP.out]; simp only [esG, oxQ, Option.bind_some, Option.bind_none, nxQ, enQ, List.map_cons, List.map_nil, HQ6.out, HQ9.out, HG.out, if_pos (c := tg y.el = 1) HIF.out, HQ13.out, HN16.out, hq2]; rfl)
              obtain ⟨rx1, rx2⟩ : ∃ cs, W17.heap[pc]? = some (.cells cs 33) := ⟨_, HC.out⟩
              replace R := Lib.hid (R.out.kept hg rx2 (by decide) (by decide) (by omega))
              replace M := Lib.hid (M.out.same (hg.block _ M.out.lt (fun e => by injection e with e; omega)))
              replace G := Lib.hid (G.out.grown hg (by omega))
              replace HC := Lib.hid hx'
              have HBY := Lib.hid R.out.box
              clear hx' hg hp hq hq2 rx2 o0 o1 o2 ZO XO
              go_wp2
              go_roundw
              case rel => exact ⟨ys, nm.body :: seen, x', R, HC, M, G, HN⟩
              case measure => rw [HBX.out, HBY.out]; simp
        have hd : ((y.tag.toNat : Int) == 1) = false := beq_eq_false_iff_ne.2 (by omega)
        have HIF := Lib.hid (show ¬ tg y.el = 1 from fun h => hy1 (HTY.out.symm.trans h))
        go_wp2_with fail
        refine (nextIs_any px y zs2 1 false hd _ _ RX.out).mono ?_
        rintro e11 W11 ⟨rfl, rfl⟩
        clear hd hy1
        obtain ⟨zz, hzz⟩ : ∃ zz, y :: zs2 = zz := ⟨_, rfl⟩
        clear hzz zz
        go_wp2_with fail
        refine (cnext_any px y zs2 _ _ RX.out).mono ?_
        rintro e13 W13 ⟨rfl, hR, hE, hg⟩
        obtain ⟨cs0, hq0⟩ := RX.out.block
        replace G := Lib.hid (G.out.grown hg (by omega))
        replace R := Lib.hid (R.out.kept hg hq0 (by decide) (by decide) (by omega))
        replace HC := Lib.hid (has_grown HC.out hg (by omega))
        replace M := Lib.hid (M.out.same (hg.block _ M.out.lt (fun e => by injection e with e; omega)))
        replace OA := Lib.hid (OA.out.keptK hg hq0 (by decide))
        clear hq0 cs0 hg
        replace RX := Lib.hid hR
        have XO := Lib.hid hE
        clear hR hE
        go_upto_region 12 with (fail)
        refine wp_nm fun W14 hWn => ?_
        obtain ⟨g9, hg⟩ : ∃ g9, W13.heap.size = g9 := ⟨_, rfl⟩
        have hb := kp_alloc (Below.refl W13.heap.size W13) (.cells #[.int .u8 (y.tag.toNat : Int), .slice y.ba y.bn y.bc, .slice y.ra y.rn y.rc] 46)
        have hz := has_new W13 (.cells #[.int .u8 (y.tag.toNat : Int), .slice y.ba y.bn y.bc, .slice y.ra y.rn y.rc] 46)
        rw [hWn] at hb hz
        rw [hg] at hz
        try rw [hg]
        have lt14R := Nat.lt_of_lt_of_le R.out.lt (Nat.le_of_eq hg)
        have lt14HC := Nat.lt_of_lt_of_le (block_lt HC.out) (Nat.le_of_eq hg)
        have lt14M := Nat.lt_of_lt_of_le M.out.lt (Nat.le_of_eq hg)
        have lt14RX := Nat.lt_of_lt_of_le RX.out.lt (Nat.le_of_eq hg)
        have lg14 : W2.heap.size ≤ g9 := by have := G.out.size; omega
        have ZO := Lib.hid hz
        clear hWn hz hg
        replace G := Lib.hid (G.out.call hb)
        replace R := Lib.hid (R.out.below hb)
        replace HC := Lib.hid (has_below HC.out hb)
        replace M := Lib.hid (M.out.below hb)
        replace RX := Lib.hid (RX.out.below hb)
        replace OA := Lib.hid (OA.out.below hb (Nat.le_refl _))
        replace XO := Lib.hid (XO.out.below hb)
        clear hb
        obtain ⟨o0, o1, o2⟩ := cells_3 ZO.out
        have HT4 := Lib.hid XO.out.vv.tgq
        by_cases hc15 : y.tag.toNat = 4
        rotate_left
        · skip
          have p4 : ((y.tag.toNat : Int) == 4) = false := beq_eq_false_iff_ne.2 (by omega)
          go_wp2_with fail
          refine (need_no _).mono ?_
          rintro e15 W15 ⟨rfl, rfl⟩
          have HN15 := Lib.hid (gd_no (p := tg y.el = 4) (by rw [HT4.out]; exact hc15))
          go_wp2
          exact ⟨rfl, SO.mkNo (by rw [HP.out]; simp only [esG, oxQ, Option.bind_some, Option.bind_none, nxQ, enQ, List.map_cons, List.map_nil, HQ6.out, HQ9.out, HG.out, if_neg (c := tg y.el = 1) HIF.out, HN15.out]) G.out⟩
        have p4 : ((y.tag.toNat : Int) == 4) = true := by rw [hc15]; rfl
        go_wp2_with fail
        refine (need_yes _).mono ?_
        rintro e15 W15 ⟨rfl, rfl⟩
        have HN15 := Lib.hid (gd_yes (p := tg y.el = 4) (by rw [HT4.out]; exact hc15))
        clear p4
        rcases zs2 with _ | ⟨vx, vxs⟩
        rotate_left
        · skip
          go_wp2_with fail
          refine (cend_no px vx vxs _ _ RX.out).mono ?_
          rintro e16 W16 ⟨rfl, rfl⟩
          go_wp2
          exact ⟨rfl, SO.mkNo (by rw [HP.out]; simp only [esG, oxQ, Option.bind_some, Option.bind_none, nxQ, enQ, List.map_cons, List.map_nil, HQ6.out, HQ9.out, HG.out, if_neg (c := tg y.el = 1) HIF.out, HN15.out]) G.out⟩
        go_wp2_with fail
        refine (cend_yes px _ _ RX.out).mono ?_
        rintro e16 W16 ⟨rfl, rfl⟩
        go_wp2_with fail
        refine (extension_any pc l hl x AA an ac q9 false y.ba y.bn y.bc y.body _ HC.out OA.out.reads HLA.out OA.out.cap.1 OA.out.cap.2 XO.out.b.rb XO.out.b.cap.1 XO.out.b.cap.2 XO.out.bl).mono ?_
        rintro e20 W20 hp
        cases hq : exQ x q9 false y.body with
        | none =>
          obtain ⟨rfl, hg⟩ := hp.no hq
          have hq2 : exQ x q9 false y.el.2 = none := hq
          go_wp2
          exact ⟨rfl, SO.mkNo (by rw [HP.out]; simp only [esG, oxQ, Option.bind_some, Option.bind_none, nxQ, enQ, List.map_cons, List.map_nil, HQ6.out, HQ9.out, HG.out, if_neg (c := tg y.el = 1) HIF.out, HN15.out, hq2]) (G.out.grown hg (by omega))⟩
        | some x' =>
          obtain ⟨⟨rfl, hx'⟩, hg⟩ := hp.yes hq
          have hq2 : exQ x q9 false y.el.2 = some x' := hq
          have HN : Hid (E0 = esG (ys.map EV.el) (nm.body :: seen) x') := Lib.hid (by rw [HP.out]; simp only [esG, oxQ, Option.bind_some, Option.bind_none, nxQ, enQ, List.map_cons, List.map_nil, HQ6.out, HQ9.out, HG.out, if_neg (c := tg y.el = 1) HIF.out, HN15.out, hq2]; rfl)
          obtain ⟨rx1, rx2⟩ : ∃ cs, W16.heap[pc]? = some (.cells cs 33) := ⟨_, HC.out⟩
          replace R := Lib.hid (R.out.kept hg rx2 (by decide) (by decide) (by omega))
          replace M := Lib.hid (M.out.same (hg.block _ M.out.lt (fun e => by injection e with e; omega)))
          replace G := Lib.hid (G.out.grown hg (by omega))
          replace HC := Lib.hid hx'
          have HBY := Lib.hid R.out.box
          clear hx' hg hp hq hq2 rx2 o0 o1 o2 ZO XO
          go_wp2
          go_roundw
          case rel => exact ⟨ys, nm.body :: seen, x', R, HC, M, G, HN⟩
          case measure => rw [HBX.out, HBY.out]; simp
end Go.Proofs.Ytomolfdcdmncoaa
namespace Go.Proofs.Ytomolfdcdmncoaa
open Go.RowKit Go
set_option linter.unusedVariables false
set_option linter.unusedSimpArgs false
set_option maxRecDepth 100000
def cert1 : Array Value := #[.slice none 0 0, .slice none 0 0, .slice none 0 0, .slice none 0 0, .slice none 0 0, .int .u16 0, .int .u8 0, .int .u8 0, .int .u8 0, .int .u8 0, .int .u8 0, .int .u16 0, .int .u8 0, .int .u8 0, .int .u8 0, .int .u8 0, .int .u8 0, .slice none 0 0, .int .u64 0, .slice none 0 0, .bool false, .int .i64 (-1), .int .i64 (-1), .bool true]
abbrev S3 := Option Addr × Nat × Nat
abbrev n0S : S3 := (none, 0, 0)
abbrev sv (s : S3) : Value := .slice s.1 s.2.1 s.2.2
def OwnS3 (w : World) (base : Nat) (s : S3) (bs : List UInt8) : Prop := OwnB w base s.1 s.2.1 s.2.2 bs
def FarS (s t : S3) : Prop := blk s.1 = none ∨ blk s.1 ≠ blk t.1
theorem FarS.symm {s t : S3} (h : FarS s t) : FarS t s := by
  unfold FarS at *
  rcases h with h | h
  · cases hb : blk t.1 with
    | none => exact .inl rfl
    | some g => right; rw [h]; simp
  · exact .inr (Ne.symm h)
def certC (raw tbs iss sub ser : S3) (f t : Tm) (n : S3) (e : Nat) (sig : S3) (x : Xt) : Array Value := #[sv raw, sv tbs, sv iss, sv sub, sv ser,
  .int .u16 (f.y : Int), .int .u8 (f.mo.toNat : Int), .int .u8 (f.d.toNat : Int), .int .u8 (f.h.toNat : Int), .int .u8 (f.mi.toNat : Int), .int .u8 (f.s.toNat : Int),
  .int .u16 (t.y : Int), .int .u8 (t.mo.toNat : Int), .int .u8 (t.d.toNat : Int), .int .u8 (t.h.toNat : Int), .int .u8 (t.mi.toNat : Int), .int .u8 (t.s.toNat : Int),
  sv n, .int .u64 (e : Int), sv sig, .bool x.ca, .int .i64 x.path, .int .i64 x.usage, .bool x.code]
def Ce.xt (c : Ce) : Xt := ⟨c.ca, c.path, c.usage, c.code⟩
/-- What the signed part of a certificate answers. -/
def SPR (w : World) (c : Ce) (e : Ending) (w' : World) : Prop := ∃ iss sub ser n : S3, e = .returned (.agg (certC n0S n0S iss sub ser c.frm c.til n c.e n0S c.xt)) ∧
  OwnS3 w' w.heap.size iss c.iss ∧ OwnS3 w' w.heap.size sub c.sub ∧ OwnS3 w' w.heap.size ser c.ser ∧ OwnS3 w' w.heap.size n c.n ∧ [iss, sub, ser, n].Pairwise FarS ∧ c.frm.y < 65536 ∧ c.til.y < 65536
def ArrI (w : World) (g : Nat) (t : TypeId) (vs : List Value) : Prop := w.heap[g]? = some (.cells vs.toArray t)
theorem ArrI.setAt {g : Nat} {t : TypeId} {w : World} {pre mid post : List Value} (h : ArrI w g t (pre ++ (mid ++ post))) (o : Nat) (cs : List Value) (ho : o = pre.length) (hl : mid.length = cs.length) : ArrI (w.setCells g o cs) g t (pre ++ (cs ++ post)) := by
  subst ho
  have key : ∀ (cs mid pre : List Value) (w : World), ArrI w g t (pre ++ (mid ++ post)) → mid.length = cs.length → ArrI (w.setCells g pre.length cs) g t (pre ++ (cs ++ post)) := by
    intro cs
    induction cs with
    | nil =>
      intro mid pre w h hl
      obtain rfl : mid = [] := List.eq_nil_of_length_eq_zero hl
      exact h
    | cons c cs ih =>
      intro mid pre w h hl
      obtain ⟨m, mid, rfl⟩ : ∃ m r, mid = m :: r := by
        cases mid with
        | nil => cases hl
        | cons m r => exact ⟨m, r, rfl⟩
      have h1 := heap_set_at w g pre.length _ t (0, 0) c h
      have h0 := set_app pre (m :: mid ++ post) pre.length 0 c rfl
      rw [Nat.add_zero] at h0
      rw [h0] at h1
      have h2 := ih mid (pre ++ [c]) (w.setCell ⟨g, pre.length, none⟩ c) (by simpa [ArrI] using h1) (by simpa using hl)
      simpa [World.setCells] using h2
  exact key cs mid pre w h hl
theorem ArrI.there {w : World} {g : Nat} {t : TypeId} {vs : List Value} (h : ArrI w g t vs) (o n : Nat) (hn : o + n ≤ vs.length) : w.there g o n := fun j hj =>
  ⟨by rw [Lib.cell_of_heap h (o + j), List.getElem?_toArray, List.getElem?_eq_getElem (by omega)]; rfl, Lib.frozen_of_heap h (o + j)⟩
theorem grown_cells (g : Nat) : ∀ (cs : List Value) (o : Nat) (w : World), w.grownBy (w.setCells g o cs) (some g)
  | [], o, w => World.grownBy.refl w _
  | c :: cs, o, w => grown_tr (grown_one w g o c) (grown_cells g cs (o + 1) _)
theorem grown_row (w : World) (g : Nat) (cs : Array Value) : w.grownBy (w.setRow g cs) (some g) := ⟨rfl, rfl, rfl, by simp [World.setRow], fun k _ hne => setRow_other w g k cs (fun e => hne (by rw [e]))⟩
theorem pw_at {α : Type} {R : α → α → Prop} {l : List α} (h : l.Pairwise R) (i j : Nat) (a b : α) (hij : i < j) (ha : l[i]? = some a) (hb : l[j]? = some b) : R a b := by
  obtain ⟨hi, ha⟩ := List.getElem?_eq_some_iff.1 ha
  obtain ⟨hj, hb⟩ := List.getElem?_eq_some_iff.1 hb
  subst ha hb
  exact List.pairwise_iff_getElem.1 h i j hi hj hij
theorem ElO.g2 {q1 q2 base : Nat} {w W : World} {v : EV} (h : ElO w base v) (hg : G2 q1 q2 w W) {cs1 cs2 : Array Value} {t1 t2 : TypeId} (hq1 : w.heap[q1]? = some (.cells cs1 t1)) (hq2 : w.heap[q2]? = some (.cells cs2 t2)) (ht1 : 5 ≠ t1) (ht2 : 5 ≠ t2) : ElO W base v :=
  ⟨hg.ownB h.b hq1 hq2 ht1 ht2, hg.ownB h.r hq1 hq2 ht1 ht2, h.bl, h.rl, h.tag⟩
set_option maxHeartbeats 16000000 in
theorem signedPart_any (v : EV) (w : World) (h : ElV w v) : Calls Try.prog 52 #[v.val] w (PO w (tbQ v.el) (SPR w)) := by
  have E := Lib.hid h
  clear h
  go_enter Try.func52, Try.ntmps52
  go_upto_region 1 with (fail)
  refine wp_nm fun W0 hW0 => ?_
  have B : Hid (Below w.heap.size w W0) := by rw [← hW0]; exact Lib.hid (kp_alloc (kp_alloc (Below.refl _ _) _) _)
  have Z : Hid (W0.heap[w.heap.size]? = some (.cells #[.int .u8 (v.tag.toNat : Int), .slice v.ba v.bn v.bc, .slice v.ra v.rn v.rc] 46)) := by rw [← hW0]; exact Lib.hid (has_alloc (has_new _ _) _)
  have Y1 : Hid (W0.heap[w.heap.size + 1]? = some (.cells #[.slice none 0 0, .slice none 0 0, .slice none 0 0, .slice none 0 0, .slice none 0 0, .int .u16 0, .int .u8 0, .int .u8 0, .int .u8 0, .int .u8 0, .int .u8 0, .int .u16 0, .int .u8 0, .int .u8 0, .int .u8 0, .int .u8 0, .int .u8 0, .slice none 0 0, .int .u64 0, .slice none 0 0, .bool false, .int .i64 0, .int .i64 0, .bool false] 33)) := by rw [← hW0]; exact Lib.hid (has_new' _ _ _ (by simp))
  clear hW0
  go_upto_region 2 with (first | (refine wpList_buildTo rfl 33 _ rfl _ rfl cert1 (by kernel_rfl) ?_) | (refine wpList_store_row rfl _ _ _ rfl W0.heap.size cert1 rfl rfl _ _ (has_new W0 _) (by kernel_rfl) rfl (by simp [cert1, Value.oneCell']) ?_))
  refine wp_nm fun W1 hWn => ?_
  obtain ⟨gc, hgc⟩ : ∃ gc, W0.heap.size = gc := ⟨_, rfl⟩
  have hb : Below W0.heap.size W0 W1 := by rw [← hWn]; exact below_setRow (kp_alloc (Below.refl _ _) _) (Nat.le_refl _) _
  have hz : W1.heap[gc]? = some (.cells #[.slice none 0 0, .slice none 0 0, .slice none 0 0, .slice none 0 0, .slice none 0 0, .int .u16 0, .int .u8 0, .int .u8 0, .int .u8 0, .int .u8 0, .int .u8 0, .int .u16 0, .int .u8 0, .int .u8 0, .int .u8 0, .int .u8 0, .int .u8 0, .slice none 0 0, .int .u64 0, .slice none 0 0, .bool false, .int .i64 (-1), .int .i64 (-1), .bool true] 33) := by rw [← hWn, ← hgc]; exact setRow_heap _ _ _ _ _ _ (has_new W0 _)
  try rw [hgc]
  have ltZ := Nat.lt_of_lt_of_le (block_lt Z.out) (Nat.le_of_eq hgc)
  have ltY := Nat.lt_of_lt_of_le (block_lt Y1.out) (Nat.le_of_eq hgc)
  have HC := Lib.hid hz
  clear hz hWn hgc
  replace B := Lib.hid (kp_call B.out hb)
  replace Z := Lib.hid (has_below Z.out hb)
  replace Y1 := Lib.hid (has_below Y1.out hb)
  clear hb
  obtain ⟨x0, x1, x2⟩ := cells_3 Z.out
  have LB := Lib.hid B.out.size
  go_wp2_with fail
  refine (within_any v 48 48 rfl _ (E.out.below B.out)).mono ?_
  rintro e2 W2 hp
  cases hq : wiQ v.el 48 with
  | none =>
    obtain ⟨rfl, hb⟩ := hp.no hq
    go_wp2
    exact ⟨rfl, PO.mkNo (by simp only [tbQ, exsQ, Option.bind_some, Option.bind_none, nxQ, enQ, List.map_cons, List.map_nil, hq]) (kp_call B.out hb)⟩
  | some q2 =>
    obtain ⟨⟨r4, vs, rfl, hpl, rfl, hR, FAR2⟩, hb⟩ := hp.yes hq
    have HQ2 := Lib.hid hq
    clear hq hp
    have lt2Z := Nat.lt_of_lt_of_le (block_lt Z.out) hpl
    have lt2Y1 := Nat.lt_of_lt_of_le (block_lt Y1.out) hpl
    have lt2HC := Nat.lt_of_lt_of_le (block_lt HC.out) hpl
    have lw2 : w.heap.size ≤ r4 := Nat.le_trans B.out.size hpl
    have F2 := Lib.hid FAR2
    clear FAR2
    replace B := Lib.hid (kp_call B.out hb)
    replace Z := Lib.hid (has_below Z.out hb)
    replace Y1 := Lib.hid (has_below Y1.out hb)
    replace HC := Lib.hid (has_below HC.out hb)
    clear hb
    have R := Lib.hid hR
    clear hR hpl
    clear x0 x1 x2
    clear Z
    rcases vs with _ | ⟨v0, vs0⟩
    · skip
      go_wp2_with fail
      refine (cnext_nil r4 _ _ R.out).mono ?_
      rintro e3 W3 ⟨rfl, hb⟩
      go_wp2
      exact ⟨rfl, PO.mkNo (by simp only [tbQ, exsQ, Option.bind_some, Option.bind_none, nxQ, enQ, List.map_cons, List.map_nil, HQ2.out]) (kp_call B.out hb)⟩
    go_wp2_with fail
    refine (cnext_any r4 v0 vs0 _ _ R.out).mono ?_
    rintro e3 W3 ⟨rfl, hR, hE, hg⟩
    obtain ⟨cs0, hq0⟩ := R.out.block
    replace B := Lib.hid (kp_grown B.out hg (by omega))
    replace Y1 := Lib.hid (has_grown Y1.out hg (by omega))
    replace HC := Lib.hid (has_grown HC.out hg (by omega))
    clear hq0 cs0 hg
    replace R := Lib.hid hR
    have X0 := Lib.hid hE
    clear hR hE
    go_wp2_with fail
    refine (within_any v0 160 160 rfl _ X0.out.vv).mono ?_
    rintro e4 W4 hp
    cases hq : wiQ v0.el 160 with
    | none =>
      obtain ⟨rfl, hb⟩ := hp.no hq
      go_wp2
      exact ⟨rfl, PO.mkNo (by simp only [tbQ, exsQ, Option.bind_some, Option.bind_none, nxQ, enQ, List.map_cons, List.map_nil, HQ2.out, hq]) (kp_call B.out hb)⟩
    | some q4 =>
      obtain ⟨⟨r5, us, rfl, hpl, rfl, hR, FAR4⟩, hb⟩ := hp.yes hq
      have HQ4 := Lib.hid hq
      clear hq hp
      have lt4Y1 := Nat.lt_of_lt_of_le (block_lt Y1.out) hpl
      have lt4HC := Nat.lt_of_lt_of_le (block_lt HC.out) hpl
      have lt4R := Nat.lt_of_lt_of_le R.out.lt hpl
      have lw4 : w.heap.size ≤ r5 := Nat.le_trans B.out.size hpl
      have F4 := Lib.hid FAR4
      clear FAR4
      replace B := Lib.hid (kp_call B.out hb)
      replace Y1 := Lib.hid (has_below Y1.out hb)
      replace HC := Lib.hid (has_below HC.out hb)
      replace R := Lib.hid (R.out.below hb)
      replace X0 := Lib.hid (X0.out.below hb)
      clear hb
      have R5 := Lib.hid hR
      clear hR hpl
      clear X0
      rcases us with _ | ⟨u0, us0⟩
      · skip
        go_wp2_with fail
        refine (cnext_nil r5 _ _ R5.out).mono ?_
        rintro e5 W5 ⟨rfl, hb⟩
        go_wp2
        exact ⟨rfl, PO.mkNo (by simp only [tbQ, exsQ, Option.bind_some, Option.bind_none, nxQ, enQ, List.map_cons, List.map_nil, HQ2.out, HQ4.out]) (kp_call B.out hb)⟩
      go_wp2_with fail
      refine (cnext_any r5 u0 us0 _ _ R5.out).mono ?_
      rintro e5 W5 ⟨rfl, hR, hE, hg⟩
      obtain ⟨cs0, hq0⟩ := R5.out.block
      replace B := Lib.hid (kp_grown B.out hg (by omega))
      replace Y1 := Lib.hid (has_grown Y1.out hg (by omega))
      replace HC := Lib.hid (has_grown HC.out hg (by omega))
      replace R := Lib.hid (R.out.kept hg hq0 (by decide) (by decide) (by omega))
      clear hq0 cs0 hg
      replace R5 := Lib.hid hR
      have U0 := Lib.hid hE
      clear hR hE
      go_wp2_with fail
      refine (small_any u0 3 3 rfl (by omega) _ U0.out.vv).mono ?_
      rintro e6 W6 hp
      cases hq : smQ u0.el 3 with
      | none =>
        obtain ⟨rfl, hb⟩ := hp.no hq
        go_wp2
        exact ⟨rfl, PO.mkNo (by simp only [tbQ, exsQ, Option.bind_some, Option.bind_none, nxQ, enQ, List.map_cons, List.map_nil, HQ2.out, HQ4.out, hq]) (kp_call B.out hb)⟩
      | some q6 =>
        obtain ⟨rfl, hb⟩ := hp.yes hq
        have HQ6 := Lib.hid hq
        clear hq hp
        replace B := Lib.hid (kp_call B.out hb)
        replace Y1 := Lib.hid (has_below Y1.out hb)
        replace HC := Lib.hid (has_below HC.out hb)
        replace R := Lib.hid (R.out.below hb)
        replace R5 := Lib.hid (R5.out.below hb)
        replace U0 := Lib.hid (U0.out.below hb)
        clear hb
        clear U0
        by_cases hc7 : q6 = 2
        rotate_left
        · skip
          have p1 : ((q6 : Int) == 2) = false := beq_eq_false_iff_ne.2 (by omega)
          go_wp2_with fail
          refine (need_no _).mono ?_
          rintro e7 W7 ⟨rfl, rfl⟩
          have HN7 := Lib.hid (gd_no hc7)
          go_wp2
          exact ⟨rfl, PO.mkNo (by simp only [tbQ, exsQ, Option.bind_some, Option.bind_none, nxQ, enQ, List.map_cons, List.map_nil, HQ2.out, HQ4.out, HQ6.out, HN7.out]) B.out⟩
        have p1 : ((q6 : Int) == 2) = true := by rw [hc7]; rfl
        go_wp2_with fail
        refine (need_yes _).mono ?_
        rintro e7 W7 ⟨rfl, rfl⟩
        have HN7 := Lib.hid (gd_yes hc7)
        clear p1
        rcases us0 with _ | ⟨vx, vxs⟩
        rotate_left
        · skip
          go_wp2_with fail
          refine (cend_no r5 vx vxs _ _ R5.out).mono ?_
          rintro e8 W8 ⟨rfl, rfl⟩
          go_wp2
          exact ⟨rfl, PO.mkNo (by simp only [tbQ, exsQ, Option.bind_some, Option.bind_none, nxQ, enQ, List.map_cons, List.map_nil, HQ2.out, HQ4.out, HQ6.out, HN7.out]) B.out⟩
        go_wp2_with fail
        refine (cend_yes r5 _ _ R5.out).mono ?_
        rintro e8 W8 ⟨rfl, rfl⟩
        clear R5
        rcases vs0 with _ | ⟨v1, vs1⟩
        · skip
          go_wp2_with fail
          refine (cnext_nil r4 _ _ R.out).mono ?_
          rintro e9 W9 ⟨rfl, hb⟩
          go_wp2
          exact ⟨rfl, PO.mkNo (by simp only [tbQ, exsQ, Option.bind_some, Option.bind_none, nxQ, enQ, List.map_cons, List.map_nil, HQ2.out, HQ4.out, HQ6.out, HN7.out]) (kp_call B.out hb)⟩
        go_wp2_with fail
        refine (cnext_any r4 v1 vs1 _ _ R.out).mono ?_
        rintro e9 W9 ⟨rfl, hR, hE, hg⟩
        obtain ⟨cs0, hq0⟩ := R.out.block
        replace B := Lib.hid (kp_grown B.out hg (by omega))
        replace Y1 := Lib.hid (has_grown Y1.out hg (by omega))
        replace HC := Lib.hid (has_grown HC.out hg (by omega))
        clear hq0 cs0 hg
        replace R := Lib.hid hR
        have X1 := Lib.hid hE
        clear hR hE
        have k4 : _ = some (.slice none 0 0 : Value) := Lib.cell_of_heap HC.out 4
        have f4 := Lib.frozen_of_heap HC.out 4
        go_wp2_with fail
        refine (serial_any v1 _ X1.out.vv).mono ?_
        rintro e10 W10 hp
        cases hq : seQ v1.el with
        | none =>
          obtain ⟨rfl, hb⟩ := hp.no hq
          go_wp2
          exact ⟨rfl, PO.mkNo (by simp only [tbQ, exsQ, Option.bind_some, Option.bind_none, nxQ, enQ, List.map_cons, List.map_nil, HQ2.out, HQ4.out, HQ6.out, HN7.out, hq]) (kp_call B.out hb)⟩
        | some q10 =>
          obtain ⟨⟨rfl, rfl⟩, hb⟩ := hp.yes hq
          have HQ10 := Lib.hid hq
          clear hq hp
          replace B := Lib.hid (kp_call B.out hb)
          replace Y1 := Lib.hid (has_below Y1.out hb)
          replace HC := Lib.hid (has_below HC.out hb)
          replace R := Lib.hid (R.out.below hb)
          replace X1 := Lib.hid (X1.out.below hb)
          clear hb
          clear k4 f4
          have k4 : _ = some (.slice none 0 0 : Value) := Lib.cell_of_heap HC.out 4
          have f4 := Lib.frozen_of_heap HC.out 4
          go_upto_region 7 with (fail)
          refine wp_nm fun W11 hWn => ?_
          clear k4 f4
          have hg : W10.grownBy W11 (some gc) := by rw [← hWn]; exact grown_one W10 gc 4 (.slice v1.ba v1.bn v1.bc)
          have hz : W11.heap[gc]? = some (.cells #[.slice none 0 0, .slice none 0 0, .slice none 0 0, .slice none 0 0, .slice v1.ba v1.bn v1.bc, .int .u16 0, .int .u8 0, .int .u8 0, .int .u8 0, .int .u8 0, .int .u8 0, .int .u16 0, .int .u8 0, .int .u8 0, .int .u8 0, .int .u8 0, .int .u8 0, .slice none 0 0, .int .u64 0, .slice none 0 0, .bool false, .int .i64 (-1), .int .i64 (-1), .bool true] 33) := by rw [← hWn]; exact heap_set_at _ gc 4 _ _ _ (.slice v1.ba v1.bn v1.bc) HC.out
          replace B := Lib.hid (kp_grown B.out hg (by omega))
          replace Y1 := Lib.hid (has_grown Y1.out hg (by omega))
          replace R := Lib.hid (R.out.kept hg HC.out (by decide) (by decide) (by omega))
          replace X1 := Lib.hid (X1.out.kept hg HC.out (by decide))
          replace HC := Lib.hid hz
          clear hz hg hWn
          as_aux_lemma =>
            rcases vs1 with _ | ⟨v2, vs2⟩
            · skip
              go_wp2_with fail
              refine (cnext_nil r4 _ _ R.out).mono ?_
              rintro e12 W12 ⟨rfl, hb⟩
              go_wp2
              exact ⟨rfl, PO.mkNo (by simp only [tbQ, exsQ, Option.bind_some, Option.bind_none, nxQ, enQ, List.map_cons, List.map_nil, HQ2.out, HQ4.out, HQ6.out, HN7.out, HQ10.out]) (kp_call B.out hb)⟩
            go_wp2_with fail
            refine (cnext_any r4 v2 vs2 _ _ R.out).mono ?_
            rintro e12 W12 ⟨rfl, hR, hE, hg⟩
            obtain ⟨cs0, hq0⟩ := R.out.block
            replace B := Lib.hid (kp_grown B.out hg (by omega))
            replace Y1 := Lib.hid (has_grown Y1.out hg (by omega))
            replace HC := Lib.hid (has_grown HC.out hg (by omega))
            replace X1 := Lib.hid (X1.out.kept hg hq0 (by decide))
            clear hq0 cs0 hg
            replace R := Lib.hid hR
            have X2 := Lib.hid hE
            clear hR hE
            go_wp2_with fail
            refine (isSign_any v2 _ X2.out.vv).mono ?_
            rintro e13 W13 hp
            cases hq : meQ v2.el 11 with
            | none =>
              obtain ⟨rfl, hb⟩ := hp.no hq
              go_wp2
              exact ⟨rfl, PO.mkNo (by simp only [tbQ, exsQ, Option.bind_some, Option.bind_none, nxQ, enQ, List.map_cons, List.map_nil, HQ2.out, HQ4.out, HQ6.out, HN7.out, HQ10.out, hq]) (kp_call B.out hb)⟩
            | some q13 =>
              obtain ⟨rfl, hb⟩ := hp.yes hq
              have HQ13 := Lib.hid hq
              clear hq hp
              replace B := Lib.hid (kp_call B.out hb)
              replace Y1 := Lib.hid (has_below Y1.out hb)
              replace HC := Lib.hid (has_below HC.out hb)
              replace R := Lib.hid (R.out.below hb)
              replace X1 := Lib.hid (X1.out.below hb)
              replace X2 := Lib.hid (X2.out.below hb)
              clear hb
              clear X2
              rcases vs2 with _ | ⟨v3, vs3⟩
              · skip
                go_wp2_with fail
                refine (cnext_nil r4 _ _ R.out).mono ?_
                rintro e14 W14 ⟨rfl, hb⟩
                go_wp2
                exact ⟨rfl, PO.mkNo (by simp only [tbQ, exsQ, Option.bind_some, Option.bind_none, nxQ, enQ, List.map_cons, List.map_nil, HQ2.out, HQ4.out, HQ6.out, HN7.out, HQ10.out, HQ13.out]) (kp_call B.out hb)⟩
              go_wp2_with fail
              refine (cnext_any r4 v3 vs3 _ _ R.out).mono ?_
              rintro e14 W14 ⟨rfl, hR, hE, hg⟩
              obtain ⟨cs0, hq0⟩ := R.out.block
              replace B := Lib.hid (kp_grown B.out hg (by omega))
              replace Y1 := Lib.hid (has_grown Y1.out hg (by omega))
              replace HC := Lib.hid (has_grown HC.out hg (by omega))
              replace X1 := Lib.hid (X1.out.kept hg hq0 (by decide))
              clear hq0 cs0 hg
              replace R := Lib.hid hR
              have X3 := Lib.hid hE
              clear hR hE
              go_wp2_with fail
              refine (anything_any v3 _ X3.out.vv).mono ?_
              rintro e15 W15 hp
              cases hq : anQ v3.el with
              | none =>
                obtain ⟨rfl, hb⟩ := hp.no hq
                go_wp2
                exact ⟨rfl, PO.mkNo (by simp only [tbQ, exsQ, Option.bind_some, Option.bind_none, nxQ, enQ, List.map_cons, List.map_nil, HQ2.out, HQ4.out, HQ6.out, HN7.out, HQ10.out, HQ13.out, hq]) (kp_call B.out hb)⟩
              | some q15 =>
                obtain ⟨⟨rfl, rfl⟩, hb⟩ := hp.yes hq
                have HQ15 := Lib.hid hq
                clear hq hp
                replace B := Lib.hid (kp_call B.out hb)
                replace Y1 := Lib.hid (has_below Y1.out hb)
                replace HC := Lib.hid (has_below HC.out hb)
                replace R := Lib.hid (R.out.below hb)
                replace X1 := Lib.hid (X1.out.below hb)
                replace X3 := Lib.hid (X3.out.below hb)
                clear hb
                have k2 : _ = some (.slice none 0 0 : Value) := Lib.cell_of_heap HC.out 2
                have f2 := Lib.frozen_of_heap HC.out 2
                go_upto_region 9 with (fail)
                refine wp_nm fun W16 hWn => ?_
                clear k2 f2
                have hg : W15.grownBy W16 (some gc) := by rw [← hWn]; exact grown_one W15 gc 2 (.slice v3.ra v3.rn v3.rc)
                have hz : W16.heap[gc]? = some (.cells #[.slice none 0 0, .slice none 0 0, .slice v3.ra v3.rn v3.rc, .slice none 0 0, .slice v1.ba v1.bn v1.bc, .int .u16 0, .int .u8 0, .int .u8 0, .int .u8 0, .int .u8 0, .int .u8 0, .int .u16 0, .int .u8 0, .int .u8 0, .int .u8 0, .int .u8 0, .int .u8 0, .slice none 0 0, .int .u64 0, .slice none 0 0, .bool false, .int .i64 (-1), .int .i64 (-1), .bool true] 33) := by rw [← hWn]; exact heap_set_at _ gc 2 _ _ _ (.slice v3.ra v3.rn v3.rc) HC.out
                replace B := Lib.hid (kp_grown B.out hg (by omega))
                replace Y1 := Lib.hid (has_grown Y1.out hg (by omega))
                replace R := Lib.hid (R.out.kept hg HC.out (by decide) (by decide) (by omega))
                replace X1 := Lib.hid (X1.out.kept hg HC.out (by decide))
                replace X3 := Lib.hid (X3.out.kept hg HC.out (by decide))
                replace HC := Lib.hid hz
                clear hz hg hWn
                as_aux_lemma =>
                  rcases vs3 with _ | ⟨v4, vs4⟩
                  · skip
                    go_wp2_with fail
                    refine (cnext_nil r4 _ _ R.out).mono ?_
                    rintro e17 W17 ⟨rfl, hb⟩
                    go_wp2
                    exact ⟨rfl, PO.mkNo (by simp only [tbQ, exsQ, Option.bind_some, Option.bind_none, nxQ, enQ, List.map_cons, List.map_nil, HQ2.out, HQ4.out, HQ6.out, HN7.out, HQ10.out, HQ13.out, HQ15.out]) (kp_call B.out hb)⟩
                  go_wp2_with fail
                  refine (cnext_any r4 v4 vs4 _ _ R.out).mono ?_
                  rintro e17 W17 ⟨rfl, hR, hE, hg⟩
                  obtain ⟨cs0, hq0⟩ := R.out.block
                  replace B := Lib.hid (kp_grown B.out hg (by omega))
                  replace Y1 := Lib.hid (has_grown Y1.out hg (by omega))
                  replace HC := Lib.hid (has_grown HC.out hg (by omega))
                  replace X1 := Lib.hid (X1.out.kept hg hq0 (by decide))
                  replace X3 := Lib.hid (X3.out.kept hg hq0 (by decide))
                  clear hq0 cs0 hg
                  replace R := Lib.hid hR
                  have X4 := Lib.hid hE
                  clear hR hE
                  go_wp2_with fail
                  refine (span_any v4 _ X4.out.vv).mono ?_
                  rintro e18 W18 hp
                  cases hq : spQ v4.el with
                  | none =>
                    obtain ⟨rfl, hb⟩ := hp.no hq
                    go_wp2
                    exact ⟨rfl, PO.mkNo (by simp only [tbQ, exsQ, Option.bind_some, Option.bind_none, nxQ, enQ, List.map_cons, List.map_nil, HQ2.out, HQ4.out, HQ6.out, HN7.out, HQ10.out, HQ13.out, HQ15.out, hq]) (kp_call B.out hb)⟩
                  | some q18 =>
                    obtain ⟨⟨rfl, hy1, hy2⟩, hb⟩ := hp.yes hq
                    have HQ18 := Lib.hid hq
                    clear hq hp
                    replace B := Lib.hid (kp_call B.out hb)
                    replace Y1 := Lib.hid (has_below Y1.out hb)
                    replace HC := Lib.hid (has_below HC.out hb)
                    replace R := Lib.hid (R.out.below hb)
                    replace X1 := Lib.hid (X1.out.below hb)
                    replace X3 := Lib.hid (X3.out.below hb)
                    replace X4 := Lib.hid (X4.out.below hb)
                    clear hb
                    clear X4
                    obtain ⟨qf, qt⟩ := q18
                    have HY := Lib.hid (And.intro hy1 hy2)
                    clear hy1 hy2
                    have A0 : ArrI W18 gc 33 (([.slice none 0 0, .slice none 0 0, .slice v3.ra v3.rn v3.rc, .slice none 0 0, .slice v1.ba v1.bn v1.bc] : List Value) ++ (([.int .u16 0, .int .u8 0, .int .u8 0, .int .u8 0, .int .u8 0, .int .u8 0] : List Value) ++ ([.int .u16 0, .int .u8 0, .int .u8 0, .int .u8 0, .int .u8 0, .int .u8 0, .slice none 0 0, .int .u64 0, .slice none 0 0, .bool false, .int .i64 (-1), .int .i64 (-1), .bool true] : List Value))) := HC.out
                    have A1 := A0.setAt 5 qf.cells.toList rfl rfl
                    have A1b : ArrI (W18.setCells gc 5 qf.cells.toList) gc 33 (([.slice none 0 0, .slice none 0 0, .slice v3.ra v3.rn v3.rc, .slice none 0 0, .slice v1.ba v1.bn v1.bc, .int .u16 (qf.y : Int), .int .u8 (qf.mo.toNat : Int), .int .u8 (qf.d.toNat : Int), .int .u8 (qf.h.toNat : Int), .int .u8 (qf.mi.toNat : Int), .int .u8 (qf.s.toNat : Int)] : List Value) ++ (([.int .u16 0, .int .u8 0, .int .u8 0, .int .u8 0, .int .u8 0, .int .u8 0] : List Value) ++ ([.slice none 0 0, .int .u64 0, .slice none 0 0, .bool false, .int .i64 (-1), .int .i64 (-1), .bool true] : List Value))) := A1
                    have A2 := A1b.setAt 11 qt.cells.toList rfl rfl
                    have T1 := Lib.hid (A0.there 5 6 (by simp))
                    have T2 := Lib.hid (A1b.there 11 6 (by simp))
                    have HA2 := Lib.hid A2
                    have i6 : Hid ((Try.prog.info? 25).map (·.size) = some qf.cells.size) := by unfold Hid; kernel_rfl
                    have i7 : Hid ((Try.prog.info? 25).map (·.size) = some qt.cells.size) := by unfold Hid; kernel_rfl
                    have a6 : Hid (qf.cells.all (·.oneCell') = true) := by unfold Hid; simp [Tm.cells, Value.oneCell']
                    have a7 : Hid (qt.cells.all (·.oneCell') = true) := by unfold Hid; simp [Tm.cells, Value.oneCell']
                    clear A0 A1 A1b A2
                    simp only [tmV]
                    obtain ⟨D1, hD1⟩ : ∃ D, qf.cells = D := ⟨_, rfl⟩
                    obtain ⟨D2, hD2⟩ : ∃ D, qt.cells = D := ⟨_, rfl⟩
                    rw [hD1] at i6 a6 HA2 ⊢
                    rw [hD2] at i7 a7 HA2 ⊢
                    rw [show 6 = D1.size by rw [← hD1]; rfl] at T1
                    rw [show 6 = D2.size by rw [← hD2]; rfl, hD1] at T2
                    have HDD := Lib.hid (And.intro hD1 hD2)
                    clear hD1 hD2
                    go_upto_region 10 with (first | (refine wpList_store_mid rfl _ _ _ rfl gc 5 D1 rfl rfl T1.out i6.out a6.out ?_) | (refine wpList_store_mid rfl _ _ _ rfl gc 11 D2 rfl rfl T2.out i7.out a7.out ?_))
                    refine wp_nm fun W19 hWn => ?_
                    have hg : W18.grownBy W19 (some gc) := by rw [← hWn]; exact grown_tr (grown_cells _ _ _ _) (grown_cells _ _ _ _)
                    have hz : W19.heap[gc]? = some (.cells #[.slice none 0 0, .slice none 0 0, .slice v3.ra v3.rn v3.rc, .slice none 0 0, .slice v1.ba v1.bn v1.bc, .int .u16 (qf.y : Int), .int .u8 (qf.mo.toNat : Int), .int .u8 (qf.d.toNat : Int), .int .u8 (qf.h.toNat : Int), .int .u8 (qf.mi.toNat : Int), .int .u8 (qf.s.toNat : Int), .int .u16 (qt.y : Int), .int .u8 (qt.mo.toNat : Int), .int .u8 (qt.d.toNat : Int), .int .u8 (qt.h.toNat : Int), .int .u8 (qt.mi.toNat : Int), .int .u8 (qt.s.toNat : Int), .slice none 0 0, .int .u64 0, .slice none 0 0, .bool false, .int .i64 (-1), .int .i64 (-1), .bool true] 33) := by
                      have h9 := HA2.out
                      rw [← HDD.out.1, ← HDD.out.2] at h9
                      rw [← hWn, ← HDD.out.1, ← HDD.out.2]
                      exact h9
                    clear T1 T2 HA2 HDD i6 i7 a6 a7
                    replace B := Lib.hid (kp_grown B.out hg (by omega))
                    replace Y1 := Lib.hid (has_grown Y1.out hg (by omega))
                    replace R := Lib.hid (R.out.kept hg HC.out (by decide) (by decide) (by omega))
                    replace X1 := Lib.hid (X1.out.kept hg HC.out (by decide))
                    replace X3 := Lib.hid (X3.out.kept hg HC.out (by decide))
                    replace HC := Lib.hid hz
                    clear hz hg hWn
                    as_aux_lemma =>
                      rcases vs4 with _ | ⟨v5, vs5⟩
                      · skip
                        go_wp2_with fail
                        refine (cnext_nil r4 _ _ R.out).mono ?_
                        rintro e20 W20 ⟨rfl, hb⟩
                        go_wp2
                        exact ⟨rfl, PO.mkNo (by simp only [tbQ, exsQ, Option.bind_some, Option.bind_none, nxQ, enQ, List.map_cons, List.map_nil, HQ2.out, HQ4.out, HQ6.out, HN7.out, HQ10.out, HQ13.out, HQ15.out, HQ18.out]) (kp_call B.out hb)⟩
                      go_wp2_with fail
                      refine (cnext_any r4 v5 vs5 _ _ R.out).mono ?_
                      rintro e20 W20 ⟨rfl, hR, hE, hg⟩
                      obtain ⟨cs0, hq0⟩ := R.out.block
                      replace B := Lib.hid (kp_grown B.out hg (by omega))
                      replace Y1 := Lib.hid (has_grown Y1.out hg (by omega))
                      replace HC := Lib.hid (has_grown HC.out hg (by omega))
                      replace X1 := Lib.hid (X1.out.kept hg hq0 (by decide))
                      replace X3 := Lib.hid (X3.out.kept hg hq0 (by decide))
                      clear hq0 cs0 hg
                      replace R := Lib.hid hR
                      have X5 := Lib.hid hE
                      clear hR hE
                      go_wp2_with fail
                      refine (anything_any v5 _ X5.out.vv).mono ?_
                      rintro e21 W21 hp
                      cases hq : anQ v5.el with
                      | none =>
                        obtain ⟨rfl, hb⟩ := hp.no hq
                        go_wp2
                        exact ⟨rfl, PO.mkNo (by simp only [tbQ, exsQ, Option.bind_some, Option.bind_none, nxQ, enQ, List.map_cons, List.map_nil, HQ2.out, HQ4.out, HQ6.out, HN7.out, HQ10.out, HQ13.out, HQ15.out, HQ18.out, hq]) (kp_call B.out hb)⟩
                      | some q21 =>
                        obtain ⟨⟨rfl, rfl⟩, hb⟩ := hp.yes hq
                        have HQ21 := Lib.hid hq
                        clear hq hp
                        replace B := Lib.hid (kp_call B.out hb)
                        replace Y1 := Lib.hid (has_below Y1.out hb)
                        replace HC := Lib.hid (has_below HC.out hb)
                        replace R := Lib.hid (R.out.below hb)
                        replace X1 := Lib.hid (X1.out.below hb)
                        replace X3 := Lib.hid (X3.out.below hb)
                        replace X5 := Lib.hid (X5.out.below hb)
                        clear hb
                        have k3 : _ = some (.slice none 0 0 : Value) := Lib.cell_of_heap HC.out 3
                        have f3 := Lib.frozen_of_heap HC.out 3
                        go_upto_region 11 with (fail)
                        refine wp_nm fun W22 hWn => ?_
                        clear k3 f3
                        have hg : W21.grownBy W22 (some gc) := by rw [← hWn]; exact grown_one W21 gc 3 (.slice v5.ra v5.rn v5.rc)
                        have hz : W22.heap[gc]? = some (.cells #[.slice none 0 0, .slice none 0 0, .slice v3.ra v3.rn v3.rc, .slice v5.ra v5.rn v5.rc, .slice v1.ba v1.bn v1.bc, .int .u16 (qf.y : Int), .int .u8 (qf.mo.toNat : Int), .int .u8 (qf.d.toNat : Int), .int .u8 (qf.h.toNat : Int), .int .u8 (qf.mi.toNat : Int), .int .u8 (qf.s.toNat : Int), .int .u16 (qt.y : Int), .int .u8 (qt.mo.toNat : Int), .int .u8 (qt.d.toNat : Int), .int .u8 (qt.h.toNat : Int), .int .u8 (qt.mi.toNat : Int), .int .u8 (qt.s.toNat : Int), .slice none 0 0, .int .u64 0, .slice none 0 0, .bool false, .int .i64 (-1), .int .i64 (-1), .bool true] 33) := by rw [← hWn]; exact heap_set_at _ gc 3 _ _ _ (.slice v5.ra v5.rn v5.rc) HC.out
                        replace B := Lib.hid (kp_grown B.out hg (by omega))
                        replace Y1 := Lib.hid (has_grown Y1.out hg (by omega))
                        replace R := Lib.hid (R.out.kept hg HC.out (by decide) (by decide) (by omega))
                        replace X1 := Lib.hid (X1.out.kept hg HC.out (by decide))
                        replace X3 := Lib.hid (X3.out.kept hg HC.out (by decide))
                        replace X5 := Lib.hid (X5.out.kept hg HC.out (by decide))
                        replace HC := Lib.hid hz
                        clear hz hg hWn
                        as_aux_lemma =>
                          rcases vs5 with _ | ⟨v6, vs6⟩
                          · skip
                            go_wp2_with fail
                            refine (cnext_nil r4 _ _ R.out).mono ?_
                            rintro e23 W23 ⟨rfl, hb⟩
                            go_wp2
                            exact ⟨rfl, PO.mkNo (by simp only [tbQ, exsQ, Option.bind_some, Option.bind_none, nxQ, enQ, List.map_cons, List.map_nil, HQ2.out, HQ4.out, HQ6.out, HN7.out, HQ10.out, HQ13.out, HQ15.out, HQ18.out, HQ21.out]) (kp_call B.out hb)⟩
                          go_wp2_with fail
                          refine (cnext_any r4 v6 vs6 _ _ R.out).mono ?_
                          rintro e23 W23 ⟨rfl, hR, hE, hg⟩
                          obtain ⟨cs0, hq0⟩ := R.out.block
                          replace B := Lib.hid (kp_grown B.out hg (by omega))
                          replace Y1 := Lib.hid (has_grown Y1.out hg (by omega))
                          replace HC := Lib.hid (has_grown HC.out hg (by omega))
                          replace X1 := Lib.hid (X1.out.kept hg hq0 (by decide))
                          replace X3 := Lib.hid (X3.out.kept hg hq0 (by decide))
                          replace X5 := Lib.hid (X5.out.kept hg hq0 (by decide))
                          clear hq0 cs0 hg
                          replace R := Lib.hid hR
                          have X6 := Lib.hid hE
                          clear hR hE
                          have LW := Lib.hid B.out.size
                          go_wp2_with fail
                          refine (key_any v6 _ X6.out.vv).mono ?_
                          rintro e24 W24 hp
                          cases hq : keQ v6.el with
                          | none =>
                            obtain ⟨rfl, hb⟩ := hp.no hq
                            go_wp2
                            exact ⟨rfl, PO.mkNo (by simp only [tbQ, exsQ, Option.bind_some, Option.bind_none, nxQ, enQ, List.map_cons, List.map_nil, HQ2.out, HQ4.out, HQ6.out, HN7.out, HQ10.out, HQ13.out, HQ15.out, HQ18.out, HQ21.out, hq]) (kp_call B.out hb)⟩
                          | some q24 =>
                            obtain ⟨⟨AN, nn, nc, rfl, hon⟩, hb⟩ := hp.yes hq
                            have HQ24 := Lib.hid hq
                            clear hq hp
                            have FN1 := blk_ne X1.out.b hon (Nat.le_refl _)
                            have FN3 := blk_ne X3.out.r hon (Nat.le_refl _)
                            have FN5 := blk_ne X5.out.r hon (Nat.le_refl _)
                            have HFN := Lib.hid (And.intro FN1 (And.intro FN3 FN5))
                            clear FN1 FN3 FN5
                            replace B := Lib.hid (kp_call B.out hb)
                            replace Y1 := Lib.hid (has_below Y1.out hb)
                            replace HC := Lib.hid (has_below HC.out hb)
                            replace R := Lib.hid (R.out.below hb)
                            replace X1 := Lib.hid (X1.out.below hb)
                            replace X3 := Lib.hid (X3.out.below hb)
                            replace X5 := Lib.hid (X5.out.below hb)
                            replace X6 := Lib.hid (X6.out.below hb)
                            clear hb
                            clear X6
                            obtain ⟨kn, ke⟩ := q24
                            have ON := Lib.hid (hon.lower LW.out)
                            clear hon
                            have k17 : _ = some (.slice none 0 0 : Value) := Lib.cell_of_heap HC.out 17
                            have f17 := Lib.frozen_of_heap HC.out 17
                            have k18 : _ = some (.int .u64 0 : Value) := Lib.cell_of_heap HC.out 18
                            have f18 := Lib.frozen_of_heap HC.out 18
                            go_upto_region 12 with (fail)
                            refine wp_nm fun W25 hWn => ?_
                            clear k17 f17 k18 f18
                            have hg : W24.grownBy W25 (some gc) := by rw [← hWn]; exact grown_tr (grown_one W24 gc 17 (.slice AN nn nc)) (grown_one _ gc 18 (.int .u64 (ke : Int)))
                            have hz : W25.heap[gc]? = some (.cells #[.slice none 0 0, .slice none 0 0, .slice v3.ra v3.rn v3.rc, .slice v5.ra v5.rn v5.rc, .slice v1.ba v1.bn v1.bc, .int .u16 (qf.y : Int), .int .u8 (qf.mo.toNat : Int), .int .u8 (qf.d.toNat : Int), .int .u8 (qf.h.toNat : Int), .int .u8 (qf.mi.toNat : Int), .int .u8 (qf.s.toNat : Int), .int .u16 (qt.y : Int), .int .u8 (qt.mo.toNat : Int), .int .u8 (qt.d.toNat : Int), .int .u8 (qt.h.toNat : Int), .int .u8 (qt.mi.toNat : Int), .int .u8 (qt.s.toNat : Int), .slice AN nn nc, .int .u64 (ke : Int), .slice none 0 0, .bool false, .int .i64 (-1), .int .i64 (-1), .bool true] 33) := by rw [← hWn]; exact heap_set_at _ gc 18 _ _ _ (.int .u64 (ke : Int)) (heap_set_at _ gc 17 _ _ _ (.slice AN nn nc) HC.out)
                            replace B := Lib.hid (kp_grown B.out hg (by omega))
                            replace Y1 := Lib.hid (has_grown Y1.out hg (by omega))
                            replace R := Lib.hid (R.out.kept hg HC.out (by decide) (by decide) (by omega))
                            replace X1 := Lib.hid (X1.out.kept hg HC.out (by decide))
                            replace X3 := Lib.hid (X3.out.kept hg HC.out (by decide))
                            replace X5 := Lib.hid (X5.out.kept hg HC.out (by decide))
                            replace ON := Lib.hid (ON.out.keptK hg HC.out (by decide))
                            replace HC := Lib.hid hz
                            clear hz hg hWn
                            as_aux_lemma =>
                              rcases vs6 with _ | ⟨v7, vs7⟩
                              · skip
                                go_wp2_with fail
                                refine (cmore_any r4 [] _ _ R.out).mono ?_
                                rintro e26 W26 ⟨rfl, rfl⟩
                                go_wp2_with fail
                                refine (cend_yes r4 _ _ R.out).mono ?_
                                rintro e60 W60 ⟨rfl, rfl⟩
                                obtain ⟨DC, HDC, HC9⟩ : ∃ DC, Hid (#[.slice none 0 0, .slice none 0 0, .slice v3.ra v3.rn v3.rc, .slice v5.ra v5.rn v5.rc, .slice v1.ba v1.bn v1.bc, .int .u16 (qf.y : Int), .int .u8 (qf.mo.toNat : Int), .int .u8 (qf.d.toNat : Int), .int .u8 (qf.h.toNat : Int), .int .u8 (qf.mi.toNat : Int), .int .u8 (qf.s.toNat : Int), .int .u16 (qt.y : Int), .int .u8 (qt.mo.toNat : Int), .int .u8 (qt.d.toNat : Int), .int .u8 (qt.h.toNat : Int), .int .u8 (qt.mi.toNat : Int), .int .u8 (qt.s.toNat : Int), .slice AN nn nc, .int .u64 (ke : Int), .slice none 0 0, .bool (xt0).ca, .int .i64 (xt0).path, .int .i64 (xt0).usage, .bool (xt0).code] = DC) ∧ Hid (_ = some (Obj.cells DC 33 (0, 0))) := ⟨_, Lib.hid rfl, HC⟩
                                have HSZ : Hid (DC.size = 24) := by rw [← HDC.out]; exact Lib.hid rfl
                                have HALL : Hid (DC.all (·.oneCell') = true) := by rw [← HDC.out]; unfold Hid; simp [Value.oneCell']
                                have HIN : Hid ((Try.prog.info? 33).map (·.size) = some DC.size) := by rw [HSZ.out]; unfold Hid; kernel_rfl
                                clear HC
                                go_wp2_with (first | (refine wpList_load_row rfl _ _ rfl gc rfl _ DC _ _ HC9.out Try.underlying33 rfl HIN.out ?_) | (refine wpList_store_row rfl _ _ _ rfl (w.heap.size + 1) DC rfl rfl _ _ Y1.out HIN.out (by rw [HSZ.out]; rfl) HALL.out ?_))
                                refine bodyPost_ret (results_c Try.results52 _ (LV.agg (setRow_heap _ _ _ _ _ _ Y1.out) Try.underlying33 rfl HIN.out)) rfl ?_
                                rw [← HDC.out]
                                refine PO.mk (x := ⟨[], [], v3.raw, v5.raw, v1.body, qf, qt, kn, ke, [], (xt0).ca, (xt0).path, (xt0).usage, (xt0).code⟩) (by simp only [tbQ, exsQ, Option.bind_some, Option.bind_none, nxQ, enQ, List.map_cons, List.map_nil, HQ2.out, HQ4.out, HQ6.out, HN7.out, HQ10.out, HQ13.out, HQ15.out, HQ18.out, HQ21.out, HQ24.out]) ⟨(v3.ra, v3.rn, v3.rc), (v5.ra, v5.rn, v5.rc), (v1.ba, v1.bn, v1.bc), (AN, nn, nc), rfl, ?_, ?_, ?_, ?_, ?_, HY.out.1, HY.out.2⟩ (below_setRow B.out (by omega) _)
                                · exact (X3.out.r.keptK (grown_row _ _ _) Y1.out (by decide)).lower LB.out
                                · exact (X5.out.r.keptK (grown_row _ _ _) Y1.out (by decide)).lower LB.out
                                · exact (X1.out.b.keptK (grown_row _ _ _) Y1.out (by decide)).lower LB.out
                                · exact ON.out.keptK (grown_row _ _ _) Y1.out (by decide)
                                · refine List.Pairwise.cons ?_ (List.Pairwise.cons ?_ (List.Pairwise.cons ?_ (List.Pairwise.cons (fun _ h => by cases h) List.Pairwise.nil)))
                                  · intro b hb
                                    simp only [List.mem_cons, List.not_mem_nil, or_false] at hb
                                    rcases hb with rfl | rfl | rfl
                                    · exact pw_at F2.out 7 11 _ _ (by omega) rfl rfl
                                    · exact FarS.symm (s := (v1.ba, v1.bn, v1.bc)) (t := (v3.ra, v3.rn, v3.rc)) (pw_at F2.out 2 7 _ _ (by omega) rfl rfl)
                                    · exact HFN.out.2.1
                                  · intro b hb
                                    simp only [List.mem_cons, List.not_mem_nil, or_false] at hb
                                    rcases hb with rfl | rfl
                                    · exact FarS.symm (s := (v1.ba, v1.bn, v1.bc)) (t := (v5.ra, v5.rn, v5.rc)) (pw_at F2.out 2 11 _ _ (by omega) rfl rfl)
                                    · exact HFN.out.2.2
                                  · intro b hb
                                    simp only [List.mem_cons, List.not_mem_nil, or_false] at hb
                                    subst hb
                                    exact HFN.out.1
                              have hmr := cmore_any r4 (v7 :: vs7) _ _ R.out
                              rw [show decide (0 < (v7 :: vs7).length) = true by simp] at hmr
                              go_wp2_with fail
                              refine hmr.mono ?_
                              rintro e26 W26 ⟨rfl, rfl⟩
                              clear hmr
                              go_wp2_with fail
                              refine (cnext_any r4 v7 vs7 _ _ R.out).mono ?_
                              rintro e27 W27 ⟨rfl, hR, hE, hg⟩
                              obtain ⟨cs0, hq0⟩ := R.out.block
                              replace B := Lib.hid (kp_grown B.out hg (by omega))
                              replace Y1 := Lib.hid (has_grown Y1.out hg (by omega))
                              replace HC := Lib.hid (has_grown HC.out hg (by omega))
                              replace X1 := Lib.hid (X1.out.kept hg hq0 (by decide))
                              replace X3 := Lib.hid (X3.out.kept hg hq0 (by decide))
                              replace X5 := Lib.hid (X5.out.kept hg hq0 (by decide))
                              replace ON := Lib.hid (ON.out.keptK hg hq0 (by decide))
                              clear hq0 cs0 hg
                              replace R := Lib.hid hR
                              have X7 := Lib.hid hE
                              clear hR hE
                              go_wp2_with fail
                              refine (within_any v7 163 163 rfl _ X7.out.vv).mono ?_
                              rintro e28 W28 hp
                              cases hq : wiQ v7.el 163 with
                              | none =>
                                obtain ⟨rfl, hb⟩ := hp.no hq
                                go_wp2
                                exact ⟨rfl, PO.mkNo (by simp only [tbQ, exsQ, Option.bind_some, Option.bind_none, nxQ, enQ, List.map_cons, List.map_nil, HQ2.out, HQ4.out, HQ6.out, HN7.out, HQ10.out, HQ13.out, HQ15.out, HQ18.out, HQ21.out, HQ24.out, hq]) (kp_call B.out hb)⟩
                              | some q28 =>
                                obtain ⟨⟨r6, zs, rfl, hpl, rfl, hR, FAR28⟩, hb⟩ := hp.yes hq
                                have HQ28 := Lib.hid hq
                                clear hq hp
                                have lt28Y1 := Nat.lt_of_lt_of_le (block_lt Y1.out) hpl
                                have lt28HC := Nat.lt_of_lt_of_le (block_lt HC.out) hpl
                                have lt28R := Nat.lt_of_lt_of_le R.out.lt hpl
                                have lw28 : w.heap.size ≤ r6 := Nat.le_trans B.out.size hpl
                                have F28 := Lib.hid FAR28
                                clear FAR28
                                replace B := Lib.hid (kp_call B.out hb)
                                replace Y1 := Lib.hid (has_below Y1.out hb)
                                replace HC := Lib.hid (has_below HC.out hb)
                                replace R := Lib.hid (R.out.below hb)
                                replace X1 := Lib.hid (X1.out.below hb)
                                replace X3 := Lib.hid (X3.out.below hb)
                                replace X5 := Lib.hid (X5.out.below hb)
                                replace ON := Lib.hid (ON.out.below hb (Nat.le_refl _))
                                replace X7 := Lib.hid (X7.out.below hb)
                                clear hb
                                have R6 := Lib.hid hR
                                clear hR hpl
                                clear X7
                                rcases zs with _ | ⟨z0, zs0⟩
                                · skip
                                  go_wp2_with fail
                                  refine (cnext_nil r6 _ _ R6.out).mono ?_
                                  rintro e29 W29 ⟨rfl, hb⟩
                                  go_wp2
                                  exact ⟨rfl, PO.mkNo (by simp only [tbQ, exsQ, Option.bind_some, Option.bind_none, nxQ, enQ, List.map_cons, List.map_nil, HQ2.out, HQ4.out, HQ6.out, HN7.out, HQ10.out, HQ13.out, HQ15.out, HQ18.out, HQ21.out, HQ24.out, HQ28.out]) (kp_call B.out hb)⟩
                                go_wp2_with fail
                                refine (cnext_any r6 z0 zs0 _ _ R6.out).mono ?_
                                rintro e29 W29 ⟨rfl, hR, hE, hg⟩
                                obtain ⟨cs0, hq0⟩ := R6.out.block
                                replace B := Lib.hid (kp_grown B.out hg (by omega))
                                replace Y1 := Lib.hid (has_grown Y1.out hg (by omega))
                                replace HC := Lib.hid (has_grown HC.out hg (by omega))
                                replace R := Lib.hid (R.out.kept hg hq0 (by decide) (by decide) (by omega))
                                replace X1 := Lib.hid (X1.out.kept hg hq0 (by decide))
                                replace X3 := Lib.hid (X3.out.kept hg hq0 (by decide))
                                replace X5 := Lib.hid (X5.out.kept hg hq0 (by decide))
                                replace ON := Lib.hid (ON.out.keptK hg hq0 (by decide))
                                clear hq0 cs0 hg
                                replace R6 := Lib.hid hR
                                have XZ := Lib.hid hE
                                clear hR hE
                                go_wp2_with fail
                                refine (within_any z0 48 48 rfl _ XZ.out.vv).mono ?_
                                rintro e30 W30 hp
                                cases hq : wiQ z0.el 48 with
                                | none =>
                                  obtain ⟨rfl, hb⟩ := hp.no hq
                                  go_wp2
                                  exact ⟨rfl, PO.mkNo (by simp only [tbQ, exsQ, Option.bind_some, Option.bind_none, nxQ, enQ, List.map_cons, List.map_nil, HQ2.out, HQ4.out, HQ6.out, HN7.out, HQ10.out, HQ13.out, HQ15.out, HQ18.out, HQ21.out, HQ24.out, HQ28.out, hq]) (kp_call B.out hb)⟩
                                | some q30 =>
                                  obtain ⟨⟨r7, ys, rfl, hpl, rfl, hR, FAR30⟩, hb⟩ := hp.yes hq
                                  have HQ30 := Lib.hid hq
                                  clear hq hp
                                  have lt30Y1 := Nat.lt_of_lt_of_le (block_lt Y1.out) hpl
                                  have lt30HC := Nat.lt_of_lt_of_le (block_lt HC.out) hpl
                                  have lt30R := Nat.lt_of_lt_of_le R.out.lt hpl
                                  have lt30R6 := Nat.lt_of_lt_of_le R6.out.lt hpl
                                  have lw30 : w.heap.size ≤ r7 := Nat.le_trans B.out.size hpl
                                  have F30 := Lib.hid FAR30
                                  clear FAR30
                                  replace B := Lib.hid (kp_call B.out hb)
                                  replace Y1 := Lib.hid (has_below Y1.out hb)
                                  replace HC := Lib.hid (has_below HC.out hb)
                                  replace R := Lib.hid (R.out.below hb)
                                  replace X1 := Lib.hid (X1.out.below hb)
                                  replace X3 := Lib.hid (X3.out.below hb)
                                  replace X5 := Lib.hid (X5.out.below hb)
                                  replace ON := Lib.hid (ON.out.below hb (Nat.le_refl _))
                                  replace R6 := Lib.hid (R6.out.below hb)
                                  replace XZ := Lib.hid (XZ.out.below hb)
                                  clear hb
                                  have R7 := Lib.hid hR
                                  clear hR hpl
                                  clear XZ
                                  obtain ⟨l20, hl20⟩ : ∃ l20 : List Value, l20 = [.slice none 0 0, .slice none 0 0, .slice v3.ra v3.rn v3.rc, .slice v5.ra v5.rn v5.rc, .slice v1.ba v1.bn v1.bc, .int .u16 (qf.y : Int), .int .u8 (qf.mo.toNat : Int), .int .u8 (qf.d.toNat : Int), .int .u8 (qf.h.toNat : Int), .int .u8 (qf.mi.toNat : Int), .int .u8 (qf.s.toNat : Int), .int .u16 (qt.y : Int), .int .u8 (qt.mo.toNat : Int), .int .u8 (qt.d.toNat : Int), .int .u8 (qt.h.toNat : Int), .int .u8 (qt.mi.toNat : Int), .int .u8 (qt.s.toNat : Int), .slice AN nn nc, .int .u64 (ke : Int), .slice none 0 0] := ⟨_, rfl⟩
                                  have HCX : Hid (W30.heap[gc]? = some (.cells (xtC l20 xt0) 33)) := by rw [hl20]; exact HC
                                  go_wp2_with fail
                                  refine (extensions_any gc l20 (by rw [hl20]; rfl) xt0 r7 _ ys _ HCX.out R7.out).mono ?_
                                  rintro e40 W40 hp
                                  obtain ⟨cs7, hq7⟩ := R7.out.block
                                  cases hq : esQ (ys.map EV.el) xt0 with
                                  | none =>
                                    obtain ⟨rfl, hg2⟩ := hp.no hq
                                    go_wp2
                                    exact ⟨rfl, PO.mkNo (by simp only [tbQ, exsQ, Option.bind_some, Option.bind_none, nxQ, enQ, List.map_cons, List.map_nil, HQ2.out, HQ4.out, HQ6.out, HN7.out, HQ10.out, HQ13.out, HQ15.out, HQ18.out, HQ21.out, HQ24.out, HQ28.out, HQ30.out, hq]) (hg2.below B.out (by omega) (by omega))⟩
                                  | some xx =>
                                    obtain ⟨⟨rfl, hx⟩, hg2⟩ := hp.yes hq
                                    have HQX := Lib.hid hq
                                    rw [hl20] at hx
                                    replace Y1 := Lib.hid (hg2.has Y1.out (by omega) (by omega))
                                    replace R := Lib.hid (R.out.g2 hg2 HC.out hq7 (by decide) (by decide) (by decide) (by decide) (by omega) (by omega))
                                    replace R6 := Lib.hid (R6.out.g2 hg2 HC.out hq7 (by decide) (by decide) (by decide) (by decide) (by omega) (by omega))
                                    replace X1 := Lib.hid (X1.out.g2 hg2 HC.out hq7 (by decide) (by decide))
                                    replace X3 := Lib.hid (X3.out.g2 hg2 HC.out hq7 (by decide) (by decide))
                                    replace X5 := Lib.hid (X5.out.g2 hg2 HC.out hq7 (by decide) (by decide))
                                    replace ON := Lib.hid (hg2.ownB ON.out HC.out hq7 (by decide) (by decide))
                                    replace B := Lib.hid (hg2.below B.out (by omega) (by omega))
                                    have HC2 := Lib.hid hx
                                    clear HC HCX R7 hq7 hg2 hx hq hp hl20
                                    have HC := HC2
                                    clear HC2
                                    rcases zs0 with _ | ⟨vx, vxs⟩
                                    rotate_left
                                    · skip
                                      go_wp2_with fail
                                      refine (cend_no r6 vx vxs _ _ R6.out).mono ?_
                                      rintro e31 W31 ⟨rfl, rfl⟩
                                      go_wp2
                                      exact ⟨rfl, PO.mkNo (by simp only [tbQ, exsQ, Option.bind_some, Option.bind_none, nxQ, enQ, List.map_cons, List.map_nil, HQ2.out, HQ4.out, HQ6.out, HN7.out, HQ10.out, HQ13.out, HQ15.out, HQ18.out, HQ21.out, HQ24.out, HQ28.out, HQ30.out, HQX.out]) B.out⟩
                                    go_wp2_with fail
                                    refine (cend_yes r6 _ _ R6.out).mono ?_
                                    rintro e31 W31 ⟨rfl, rfl⟩
                                    rcases vs7 with _ | ⟨vx, vxs⟩
                                    rotate_left
                                    · skip
                                      go_wp2_with fail
                                      refine (cend_no r4 vx vxs _ _ R.out).mono ?_
                                      rintro e32 W32 ⟨rfl, rfl⟩
                                      go_wp2
                                      exact ⟨rfl, PO.mkNo (by simp only [tbQ, exsQ, Option.bind_some, Option.bind_none, nxQ, enQ, List.map_cons, List.map_nil, HQ2.out, HQ4.out, HQ6.out, HN7.out, HQ10.out, HQ13.out, HQ15.out, HQ18.out, HQ21.out, HQ24.out, HQ28.out, HQ30.out, HQX.out]) B.out⟩
                                    go_wp2_with fail
                                    refine (cend_yes r4 _ _ R.out).mono ?_
                                    rintro e32 W32 ⟨rfl, rfl⟩
                                    obtain ⟨DC, HDC, HC9⟩ : ∃ DC, Hid (#[.slice none 0 0, .slice none 0 0, .slice v3.ra v3.rn v3.rc, .slice v5.ra v5.rn v5.rc, .slice v1.ba v1.bn v1.bc, .int .u16 (qf.y : Int), .int .u8 (qf.mo.toNat : Int), .int .u8 (qf.d.toNat : Int), .int .u8 (qf.h.toNat : Int), .int .u8 (qf.mi.toNat : Int), .int .u8 (qf.s.toNat : Int), .int .u16 (qt.y : Int), .int .u8 (qt.mo.toNat : Int), .int .u8 (qt.d.toNat : Int), .int .u8 (qt.h.toNat : Int), .int .u8 (qt.mi.toNat : Int), .int .u8 (qt.s.toNat : Int), .slice AN nn nc, .int .u64 (ke : Int), .slice none 0 0, .bool (xx).ca, .int .i64 (xx).path, .int .i64 (xx).usage, .bool (xx).code] = DC) ∧ Hid (_ = some (Obj.cells DC 33 (0, 0))) := ⟨_, Lib.hid rfl, HC⟩
                                    have HSZ : Hid (DC.size = 24) := by rw [← HDC.out]; exact Lib.hid rfl
                                    have HALL : Hid (DC.all (·.oneCell') = true) := by rw [← HDC.out]; unfold Hid; simp [Value.oneCell']
                                    have HIN : Hid ((Try.prog.info? 33).map (·.size) = some DC.size) := by rw [HSZ.out]; unfold Hid; kernel_rfl
                                    clear HC
                                    go_wp2_with (first | (refine wpList_load_row rfl _ _ rfl gc rfl _ DC _ _ HC9.out Try.underlying33 rfl HIN.out ?_) | (refine wpList_store_row rfl _ _ _ rfl (w.heap.size + 1) DC rfl rfl _ _ Y1.out HIN.out (by rw [HSZ.out]; rfl) HALL.out ?_))
                                    refine bodyPost_ret (results_c Try.results52 _ (LV.agg (setRow_heap _ _ _ _ _ _ Y1.out) Try.underlying33 rfl HIN.out)) rfl ?_
                                    rw [← HDC.out]
                                    refine PO.mk (x := ⟨[], [], v3.raw, v5.raw, v1.body, qf, qt, kn, ke, [], (xx).ca, (xx).path, (xx).usage, (xx).code⟩) (by simp only [tbQ, exsQ, Option.bind_some, Option.bind_none, nxQ, enQ, List.map_cons, List.map_nil, HQ2.out, HQ4.out, HQ6.out, HN7.out, HQ10.out, HQ13.out, HQ15.out, HQ18.out, HQ21.out, HQ24.out, HQ28.out, HQ30.out, HQX.out]) ⟨(v3.ra, v3.rn, v3.rc), (v5.ra, v5.rn, v5.rc), (v1.ba, v1.bn, v1.bc), (AN, nn, nc), rfl, ?_, ?_, ?_, ?_, ?_, HY.out.1, HY.out.2⟩ (below_setRow B.out (by omega) _)
                                    · exact (X3.out.r.keptK (grown_row _ _ _) Y1.out (by decide)).lower LB.out
                                    · exact (X5.out.r.keptK (grown_row _ _ _) Y1.out (by decide)).lower LB.out
                                    · exact (X1.out.b.keptK (grown_row _ _ _) Y1.out (by decide)).lower LB.out
                                    · exact ON.out.keptK (grown_row _ _ _) Y1.out (by decide)
                                    · refine List.Pairwise.cons ?_ (List.Pairwise.cons ?_ (List.Pairwise.cons ?_ (List.Pairwise.cons (fun _ h => by cases h) List.Pairwise.nil)))
                                      · intro b hb
                                        simp only [List.mem_cons, List.not_mem_nil, or_false] at hb
                                        rcases hb with rfl | rfl | rfl
                                        · exact pw_at F2.out 7 11 _ _ (by omega) rfl rfl
                                        · exact FarS.symm (s := (v1.ba, v1.bn, v1.bc)) (t := (v3.ra, v3.rn, v3.rc)) (pw_at F2.out 2 7 _ _ (by omega) rfl rfl)
                                        · exact HFN.out.2.1
                                      · intro b hb
                                        simp only [List.mem_cons, List.not_mem_nil, or_false] at hb
                                        rcases hb with rfl | rfl
                                        · exact FarS.symm (s := (v1.ba, v1.bn, v1.bc)) (t := (v5.ra, v5.rn, v5.rc)) (pw_at F2.out 2 11 _ _ (by omega) rfl rfl)
                                        · exact HFN.out.2.2
                                      · intro b hb
                                        simp only [List.mem_cons, List.not_mem_nil, or_false] at hb
                                        subst hb
                                        exact HFN.out.1
end Go.Proofs.Ytomolfdcdmncoaa
namespace Go.Proofs.Ytomolfdcdmncoaa
open Go.RowKit Go
set_option linter.unusedVariables false
set_option linter.unusedSimpArgs false
set_option maxRecDepth 100000
theorem own_nilC (w : World) : OwnB (w.alloc (.cells #[] 5)) w.heap.size (some ⟨w.heap.size, 0, none⟩) 0 0 [] :=
  ⟨rfl, .inr ⟨w.heap.size, 0, #[], rfl, Nat.le_refl _, heap_alloc_new w _, Nat.le_refl _, Nat.zero_le _, rfl, rfl⟩⟩
theorem bclone_any (A : Addr) (n c : Nat) (bs : List UInt8) (w : World) (h : RB w (some A) n bs) (hn : n ≤ 1000000000) :
    Calls Try.prog 56 #[.slice (some A) n c] w (Fresh w bs) := by
  have hnil : ∀ W, (binOp BinOp.eql 22 (.slice (some A) n c) (.slice none 0 0)).run Try.prog W = .ok (.bool false) W := fun W => by kernel_rfl
  go_enter Try.func56, Try.ntmps56
  go_wp2_with (at_builtin; refine wpList_apn _ _ rfl rfl rfl w.heap.size (some ⟨w.heap.size, 0, none⟩) 0 0 [] rfl (own_nilC w) (some A) n c _ rfl (h.alloc _) (by omega) (by simp) ?_)
  intro A' c' w' hown hg
  go_wp2
  go_ret
  exact ⟨A', _, c', rfl, by simpa using hown, ((Below.refl _ _).alloc (Nat.le_refl _) _).grown hg (by simp) (by intro k hk; cases hk; exact Nat.le_refl _)⟩
def WHR (w : World) (c : Ce) (e : Ending) (w' : World) : Prop := ∃ raw tbs iss sub ser n sig : S3, e = .returned (.agg (certC raw tbs iss sub ser c.frm c.til n c.e sig c.xt)) ∧
  OwnS3 w' w.heap.size raw c.raw ∧ OwnS3 w' w.heap.size tbs c.tbs ∧ OwnS3 w' w.heap.size iss c.iss ∧ OwnS3 w' w.heap.size sub c.sub ∧ OwnS3 w' w.heap.size ser c.ser ∧ OwnS3 w' w.heap.size n c.n ∧ OwnS3 w' w.heap.size sig c.sig ∧
  [raw, tbs, iss, sub, ser, n, sig].Pairwise FarS ∧ c.frm.y < 65536 ∧ c.til.y < 65536
set_option maxHeartbeats 16000000 in
theorem whole_any (A : Addr) (n c : Nat) (bs : List UInt8) (w : World) (hR : RB w (some A) n bs) (hnc : n ≤ c) (hc : c ≤ maxLen) (hn : n ≤ 1000000) : Calls Try.prog 38 #[.slice (some A) n c] w (PO w (whQ bs) (WHR w)) := by
  have HR := Lib.hid hR
  have HS := Lib.hid (fun W (hb : Below w.heap.size w W) => single_any (some A) n c bs W (hR.below hb) hnc hc hn)
  have HCL := Lib.hid (fun W (hb : Below w.heap.size w W) => bclone_any A n c bs W (hR.below hb) (by omega))
  clear hR hnc hc
  go_enter Try.func38, Try.ntmps38
  go_upto_region 1 with (fail)
  refine wp_nm fun W0 hW0 => ?_
  have B : Hid (Below w.heap.size w W0) := by rw [← hW0]; exact Lib.hid (kp_alloc (Below.refl _ _) _)
  have Y1 : Hid (W0.heap[w.heap.size]? = some (.cells #[.slice none 0 0, .slice none 0 0, .slice none 0 0, .slice none 0 0, .slice none 0 0, .int .u16 0, .int .u8 0, .int .u8 0, .int .u8 0, .int .u8 0, .int .u8 0, .int .u16 0, .int .u8 0, .int .u8 0, .int .u8 0, .int .u8 0, .int .u8 0, .slice none 0 0, .int .u64 0, .slice none 0 0, .bool false, .int .i64 0, .int .i64 0, .bool false] 33)) := by rw [← hW0]; exact Lib.hid (has_new _ _)
  clear hW0
  go_wp2_with fail
  refine (HS.out _ B.out).mono ?_
  rintro e1 W1 hp
  cases hq : siQ bs with
  | none =>
    obtain ⟨rfl, hb⟩ := hp.no hq
    go_wp2
    exact ⟨rfl, PO.mkNo (by simp only [whQ, Option.bind_some, Option.bind_none, nxQ, enQ, List.map_cons, List.map_nil, hq]) (kp_call B.out hb)⟩
  | some q1 =>
    obtain ⟨⟨vy, rfl, rfl, hE, hfy⟩, hb⟩ := hp.yes hq
    have HQ1 := Lib.hid hq
    clear hq hp
    replace B := Lib.hid (kp_call B.out hb)
    replace Y1 := Lib.hid (has_below Y1.out hb)
    clear hb
    have XY := Lib.hid hE
    clear hE hfy
    have LB := Lib.hid B.out.size
    go_wp2_with fail
    refine (within_any vy 48 48 rfl _ XY.out.vv).mono ?_
    rintro e2 W2 hp
    cases hq : wiQ vy.el 48 with
    | none =>
      obtain ⟨rfl, hb⟩ := hp.no hq
      go_wp2
      exact ⟨rfl, PO.mkNo (by simp only [whQ, Option.bind_some, Option.bind_none, nxQ, enQ, List.map_cons, List.map_nil, HQ1.out, hq]) (kp_call B.out hb)⟩
    | some q2 =>
      obtain ⟨⟨r3, vs, rfl, hpl, rfl, hR, FAR2⟩, hb⟩ := hp.yes hq
      have HQ2 := Lib.hid hq
      clear hq hp
      have lt2Y1 := Nat.lt_of_lt_of_le (block_lt Y1.out) hpl
      have lw2 : w.heap.size ≤ r3 := Nat.le_trans B.out.size hpl
      have F2 := Lib.hid FAR2
      clear FAR2
      replace B := Lib.hid (kp_call B.out hb)
      replace Y1 := Lib.hid (has_below Y1.out hb)
      replace XY := Lib.hid (XY.out.below hb)
      clear hb
      have R := Lib.hid hR
      clear hR hpl
      clear XY
      rcases vs with _ | ⟨v1, vs1⟩
      · skip
        go_wp2_with fail
        refine (cnext_nil r3 _ _ R.out).mono ?_
        rintro e3 W3 ⟨rfl, hb⟩
        go_wp2
        exact ⟨rfl, PO.mkNo (by simp only [whQ, Option.bind_some, Option.bind_none, nxQ, enQ, List.map_cons, List.map_nil, HQ1.out, HQ2.out]) (kp_call B.out hb)⟩
      go_wp2_with fail
      refine (cnext_any r3 v1 vs1 _ _ R.out).mono ?_
      rintro e3 W3 ⟨rfl, hR, hE, hg⟩
      obtain ⟨cs0, hq0⟩ := R.out.block
      replace B := Lib.hid (kp_grown B.out hg (by omega))
      replace Y1 := Lib.hid (has_grown Y1.out hg (by omega))
      clear hq0 cs0 hg
      replace R := Lib.hid hR
      have X1 := Lib.hid hE
      clear hR hE
      go_upto_region 3 with (fail)
      refine wp_nm fun W4 hWn => ?_
      obtain ⟨g4, hg4⟩ : ∃ g4, W3.heap.size = g4 := ⟨_, rfl⟩
      have hb := kp_alloc (Below.refl W3.heap.size W3) (.cells #[.int .u8 (v1.tag.toNat : Int), .slice v1.ba v1.bn v1.bc, .slice v1.ra v1.rn v1.rc] 46)
      have hz := has_new W3 (.cells #[.int .u8 (v1.tag.toNat : Int), .slice v1.ba v1.bn v1.bc, .slice v1.ra v1.rn v1.rc] 46)
      rw [hWn] at hb hz
      rw [hg4] at hz
      try rw [hg4]
      have lt40 := Nat.lt_of_lt_of_le (block_lt Y1.out) (Nat.le_of_eq hg4)
      have lt4R := Nat.lt_of_lt_of_le R.out.lt (Nat.le_of_eq hg4)
      have Z := Lib.hid hz
      clear hz hWn hg4
      replace B := Lib.hid (kp_call B.out hb)
      replace Y1 := Lib.hid (has_below Y1.out hb)
      replace R := Lib.hid (R.out.below hb)
      replace X1 := Lib.hid (X1.out.below hb)
      clear hb
      obtain ⟨x0, x1, x2⟩ := cells_3 Z.out
      have LS := Lib.hid B.out.size
      go_wp2_with fail
      refine (signedPart_any v1 _ X1.out.vv).mono ?_
      rintro e5 W5 hp
      cases hq : tbQ v1.el with
      | none =>
        obtain ⟨rfl, hb⟩ := hp.no hq
        go_wp2
        exact ⟨rfl, PO.mkNo (by simp only [whQ, Option.bind_some, Option.bind_none, nxQ, enQ, List.map_cons, List.map_nil, HQ1.out, HQ2.out, hq]) (kp_call B.out hb)⟩
      | some q5 =>
        obtain ⟨⟨iss, sub, ser, sn, rfl, hoi, hos, hor, hon, hpw, hy1, hy2⟩, hb⟩ := hp.yes hq
        have HQ5 := Lib.hid hq
        clear hq hp
        have FT1 : FarS (v1.ra, v1.rn, v1.rc) iss := blk_ne X1.out.r hoi (Nat.le_refl _)
        have FT2 : FarS (v1.ra, v1.rn, v1.rc) sub := blk_ne X1.out.r hos (Nat.le_refl _)
        have FT3 : FarS (v1.ra, v1.rn, v1.rc) ser := blk_ne X1.out.r hor (Nat.le_refl _)
        have FT4 : FarS (v1.ra, v1.rn, v1.rc) sn := blk_ne X1.out.r hon (Nat.le_refl _)
        have HFT := Lib.hid (And.intro FT1 (And.intro FT2 (And.intro FT3 FT4)))
        clear FT1 FT2 FT3 FT4 x0 x1 x2
        replace B := Lib.hid (kp_call B.out hb)
        replace Y1 := Lib.hid (has_below Y1.out hb)
        replace R := Lib.hid (R.out.below hb)
        replace X1 := Lib.hid (X1.out.below hb)
        replace Z := Lib.hid (has_below Z.out hb)
        clear hb
        have OI := Lib.hid (OwnB.lower hoi LS.out)
        have OS := Lib.hid (OwnB.lower hos LS.out)
        have OR := Lib.hid (OwnB.lower hor LS.out)
        have ON := Lib.hid (OwnB.lower hon LS.out)
        have HPW := Lib.hid hpw
        have HYY := Lib.hid (And.intro hy1 hy2)
        clear hoi hos hor hon hpw hy1 hy2
        obtain ⟨DC, HDC⟩ : ∃ DC, Hid (certC n0S n0S iss sub ser q5.frm q5.til sn q5.e n0S q5.xt = DC) := ⟨_, Lib.hid rfl⟩
        rw [HDC.out]
        have HSZ : Hid (DC.size = 24) := by rw [← HDC.out]; exact Lib.hid rfl
        have HALL : Hid (DC.all (·.oneCell') = true) := by rw [← HDC.out]; unfold Hid; simp [certC, Value.oneCell']
        have HIN : Hid ((Try.prog.info? 33).map (·.size) = some DC.size) := by rw [HSZ.out]; unfold Hid; kernel_rfl
        go_upto_region 4 with (refine wpList_store_row rfl _ _ _ rfl W5.heap.size DC rfl rfl _ _ (has_new W5 _) HIN.out (by rw [HSZ.out]; rfl) HALL.out ?_)
        refine wp_nm fun W6 hWn => ?_
        obtain ⟨gc, hgc⟩ : ∃ gc, W5.heap.size = gc := ⟨_, rfl⟩
        have hb : Below W5.heap.size W5 W6 := by rw [← hWn]; exact below_setRow (kp_alloc (Below.refl _ _) _) (Nat.le_refl _) _
        have hz0 : W6.heap[gc]? = some (.cells DC 33) := by rw [← hWn, ← hgc]; exact setRow_heap _ _ _ _ _ _ (has_new W5 _)
        have hz : W6.heap[gc]? = some (.cells #[.slice none 0 0, .slice none 0 0, .slice iss.1 iss.2.1 iss.2.2, .slice sub.1 sub.2.1 sub.2.2, .slice ser.1 ser.2.1 ser.2.2, .int .u16 (q5.frm.y : Int), .int .u8 (q5.frm.mo.toNat : Int), .int .u8 (q5.frm.d.toNat : Int), .int .u8 (q5.frm.h.toNat : Int), .int .u8 (q5.frm.mi.toNat : Int), .int .u8 (q5.frm.s.toNat : Int), .int .u16 (q5.til.y : Int), .int .u8 (q5.til.mo.toNat : Int), .int .u8 (q5.til.d.toNat : Int), .int .u8 (q5.til.h.toNat : Int), .int .u8 (q5.til.mi.toNat : Int), .int .u8 (q5.til.s.toNat : Int), .slice sn.1 sn.2.1 sn.2.2, .int .u64 (q5.e : Int), .slice none 0 0, .bool q5.xt.ca, .int .i64 q5.xt.path, .int .i64 q5.xt.usage, .bool q5.xt.code] 33) := by rw [← HDC.out] at hz0; exact hz0
        try rw [hgc]
        have ltcY := Nat.lt_of_lt_of_le (block_lt Y1.out) (Nat.le_of_eq hgc)
        have ltcZ := Nat.lt_of_lt_of_le (block_lt Z.out) (Nat.le_of_eq hgc)
        have ltcR := Nat.lt_of_lt_of_le R.out.lt (Nat.le_of_eq hgc)
        have lwc := Nat.le_trans B.out.size (Nat.le_of_eq hgc)
        have HC := Lib.hid hz
        clear hz hz0 hWn hgc HDC HSZ HALL HIN
        replace B := Lib.hid (kp_call B.out hb)
        replace Y1 := Lib.hid (has_below Y1.out hb)
        replace R := Lib.hid (R.out.below hb)
        replace X1 := Lib.hid (X1.out.below hb)
        replace Z := Lib.hid (has_below Z.out hb)
        replace OI := Lib.hid (OI.out.below hb (Nat.le_refl _))
        replace OS := Lib.hid (OS.out.below hb (Nat.le_refl _))
        replace OR := Lib.hid (OR.out.below hb (Nat.le_refl _))
        replace ON := Lib.hid (ON.out.below hb (Nat.le_refl _))
        clear hb
        rcases vs1 with _ | ⟨v2, vs2⟩
        · skip
          go_wp2_with fail
          refine (cnext_nil r3 _ _ R.out).mono ?_
          rintro e7 W7 ⟨rfl, hb⟩
          go_wp2
          exact ⟨rfl, PO.mkNo (by simp only [whQ, Option.bind_some, Option.bind_none, nxQ, enQ, List.map_cons, List.map_nil, HQ1.out, HQ2.out, HQ5.out]) (kp_call B.out hb)⟩
        go_wp2_with fail
        refine (cnext_any r3 v2 vs2 _ _ R.out).mono ?_
        rintro e7 W7 ⟨rfl, hR, hE, hg⟩
        obtain ⟨cs0, hq0⟩ := R.out.block
        replace B := Lib.hid (kp_grown B.out hg (by omega))
        replace Y1 := Lib.hid (has_grown Y1.out hg (by omega))
        replace X1 := Lib.hid (X1.out.kept hg hq0 (by decide))
        replace Z := Lib.hid (has_grown Z.out hg (by omega))
        replace OI := Lib.hid (OI.out.keptK hg hq0 (by decide))
        replace OS := Lib.hid (OS.out.keptK hg hq0 (by decide))
        replace OR := Lib.hid (OR.out.keptK hg hq0 (by decide))
        replace ON := Lib.hid (ON.out.keptK hg hq0 (by decide))
        replace HC := Lib.hid (has_grown HC.out hg (by omega))
        clear hq0 cs0 hg
        replace R := Lib.hid hR
        have X2 := Lib.hid hE
        clear hR hE
        go_wp2_with fail
        refine (isSign_any v2 _ X2.out.vv).mono ?_
        rintro e8 W8 hp
        cases hq : meQ v2.el 11 with
        | none =>
          obtain ⟨rfl, hb⟩ := hp.no hq
          go_wp2
          exact ⟨rfl, PO.mkNo (by simp only [whQ, Option.bind_some, Option.bind_none, nxQ, enQ, List.map_cons, List.map_nil, HQ1.out, HQ2.out, HQ5.out, hq]) (kp_call B.out hb)⟩
        | some q8 =>
          obtain ⟨rfl, hb⟩ := hp.yes hq
          have HQ8 := Lib.hid hq
          clear hq hp
          replace B := Lib.hid (kp_call B.out hb)
          replace Y1 := Lib.hid (has_below Y1.out hb)
          replace R := Lib.hid (R.out.below hb)
          replace X1 := Lib.hid (X1.out.below hb)
          replace Z := Lib.hid (has_below Z.out hb)
          replace OI := Lib.hid (OI.out.below hb (Nat.le_refl _))
          replace OS := Lib.hid (OS.out.below hb (Nat.le_refl _))
          replace OR := Lib.hid (OR.out.below hb (Nat.le_refl _))
          replace ON := Lib.hid (ON.out.below hb (Nat.le_refl _))
          replace HC := Lib.hid (has_below HC.out hb)
          replace X2 := Lib.hid (X2.out.below hb)
          clear hb
          clear X2
          rcases vs2 with _ | ⟨v3, vs3⟩
          · skip
            go_wp2_with fail
            refine (cnext_nil r3 _ _ R.out).mono ?_
            rintro e9 W9 ⟨rfl, hb⟩
            go_wp2
            exact ⟨rfl, PO.mkNo (by simp only [whQ, Option.bind_some, Option.bind_none, nxQ, enQ, List.map_cons, List.map_nil, HQ1.out, HQ2.out, HQ5.out, HQ8.out]) (kp_call B.out hb)⟩
          go_wp2_with fail
          refine (cnext_any r3 v3 vs3 _ _ R.out).mono ?_
          rintro e9 W9 ⟨rfl, hR, hE, hg⟩
          obtain ⟨cs0, hq0⟩ := R.out.block
          replace B := Lib.hid (kp_grown B.out hg (by omega))
          replace Y1 := Lib.hid (has_grown Y1.out hg (by omega))
          replace X1 := Lib.hid (X1.out.kept hg hq0 (by decide))
          replace Z := Lib.hid (has_grown Z.out hg (by omega))
          replace OI := Lib.hid (OI.out.keptK hg hq0 (by decide))
          replace OS := Lib.hid (OS.out.keptK hg hq0 (by decide))
          replace OR := Lib.hid (OR.out.keptK hg hq0 (by decide))
          replace ON := Lib.hid (ON.out.keptK hg hq0 (by decide))
          replace HC := Lib.hid (has_grown HC.out hg (by omega))
          clear hq0 cs0 hg
          replace R := Lib.hid hR
          have X3 := Lib.hid hE
          clear hR hE
          have LG := Lib.hid B.out.size
          go_wp2_with fail
          refine (cwholeBits_any v3 _ X3.out.vv).mono ?_
          rintro e10 W10 hp
          cases hq : wbQ v3.el with
          | none =>
            obtain ⟨rfl, hb⟩ := hp.no hq
            go_wp2
            exact ⟨rfl, PO.mkNo (by simp only [whQ, Option.bind_some, Option.bind_none, nxQ, enQ, List.map_cons, List.map_nil, HQ1.out, HQ2.out, HQ5.out, HQ8.out, hq]) (kp_call B.out hb)⟩
          | some q10 =>
            obtain ⟨⟨AG, ng, cg, rfl, hog⟩, hb⟩ := hp.yes hq
            have HQ10 := Lib.hid hq
            clear hq hp
            have FG0 : FarS (v1.ra, v1.rn, v1.rc) (AG, ng, cg) := blk_ne X1.out.r hog (Nat.le_refl _)
            have FG1 : FarS iss (AG, ng, cg) := blk_ne OI.out hog (Nat.le_refl _)
            have FG2 : FarS sub (AG, ng, cg) := blk_ne OS.out hog (Nat.le_refl _)
            have FG3 : FarS ser (AG, ng, cg) := blk_ne OR.out hog (Nat.le_refl _)
            have FG4 : FarS sn (AG, ng, cg) := blk_ne ON.out hog (Nat.le_refl _)
            have HFG := Lib.hid (And.intro FG0 (And.intro FG1 (And.intro FG2 (And.intro FG3 FG4))))
            clear FG0 FG1 FG2 FG3 FG4
            replace B := Lib.hid (kp_call B.out hb)
            replace Y1 := Lib.hid (has_below Y1.out hb)
            replace R := Lib.hid (R.out.below hb)
            replace X1 := Lib.hid (X1.out.below hb)
            replace Z := Lib.hid (has_below Z.out hb)
            replace OI := Lib.hid (OI.out.below hb (Nat.le_refl _))
            replace OS := Lib.hid (OS.out.below hb (Nat.le_refl _))
            replace OR := Lib.hid (OR.out.below hb (Nat.le_refl _))
            replace ON := Lib.hid (ON.out.below hb (Nat.le_refl _))
            replace HC := Lib.hid (has_below HC.out hb)
            replace X3 := Lib.hid (X3.out.below hb)
            clear hb
            clear X3
            have OG := Lib.hid (hog.lower LG.out)
            clear hog
            have k19 : _ = some (.slice none 0 0 : Value) := Lib.cell_of_heap HC.out 19
            have f19 := Lib.frozen_of_heap HC.out 19
            go_upto_region 6 with (fail)
            refine wp_nm fun W11 hWn => ?_
            clear k19 f19
            have hg : W10.grownBy W11 (some gc) := by rw [← hWn]; exact grown_one W10 gc 19 (.slice AG ng cg)
            have hz : W11.heap[gc]? = some (.cells #[.slice none 0 0, .slice none 0 0, .slice iss.1 iss.2.1 iss.2.2, .slice sub.1 sub.2.1 sub.2.2, .slice ser.1 ser.2.1 ser.2.2, .int .u16 (q5.frm.y : Int), .int .u8 (q5.frm.mo.toNat : Int), .int .u8 (q5.frm.d.toNat : Int), .int .u8 (q5.frm.h.toNat : Int), .int .u8 (q5.frm.mi.toNat : Int), .int .u8 (q5.frm.s.toNat : Int), .int .u16 (q5.til.y : Int), .int .u8 (q5.til.mo.toNat : Int), .int .u8 (q5.til.d.toNat : Int), .int .u8 (q5.til.h.toNat : Int), .int .u8 (q5.til.mi.toNat : Int), .int .u8 (q5.til.s.toNat : Int), .slice sn.1 sn.2.1 sn.2.2, .int .u64 (q5.e : Int), .slice AG ng cg, .bool q5.xt.ca, .int .i64 q5.xt.path, .int .i64 q5.xt.usage, .bool q5.xt.code] 33) := by rw [← hWn]; exact heap_set_at _ gc 19 _ _ _ (.slice AG ng cg) HC.out
            replace B := Lib.hid (kp_grown B.out hg (by omega))
            replace Y1 := Lib.hid (has_grown Y1.out hg (by omega))
            replace R := Lib.hid (R.out.kept hg HC.out (by decide) (by decide) (by omega))
            replace X1 := Lib.hid (X1.out.kept hg HC.out (by decide))
            replace Z := Lib.hid (has_grown Z.out hg (by omega))
            replace OI := Lib.hid (OI.out.keptK hg HC.out (by decide))
            replace OS := Lib.hid (OS.out.keptK hg HC.out (by decide))
            replace OR := Lib.hid (OR.out.keptK hg HC.out (by decide))
            replace ON := Lib.hid (ON.out.keptK hg HC.out (by decide))
            replace OG := Lib.hid (OG.out.keptK hg HC.out (by decide))
            replace HC := Lib.hid hz
            clear hz hg hWn
            as_aux_lemma =>
              rcases vs3 with _ | ⟨vx, vxs⟩
              rotate_left
              · skip
                go_wp2_with fail
                refine (cend_no r3 vx vxs _ _ R.out).mono ?_
                rintro e12 W12 ⟨rfl, rfl⟩
                go_wp2
                exact ⟨rfl, PO.mkNo (by simp only [whQ, Option.bind_some, Option.bind_none, nxQ, enQ, List.map_cons, List.map_nil, HQ1.out, HQ2.out, HQ5.out, HQ8.out, HQ10.out]) B.out⟩
              go_wp2_with fail
              refine (cend_yes r3 _ _ R.out).mono ?_
              rintro e12 W12 ⟨rfl, rfl⟩
              go_upto_region 7 with (fail)
              obtain ⟨x0, x1, x2⟩ := cells_3 Z.out
              refine wp_region_noPanic ?_
              refine wp_region_held_drew (S := (fun W9 => W9.cell? ⟨g4, 2, none⟩ = some (.slice v1.ra v1.rn v1.rc))) (by kernel_rfl) x2 (fun hHeld => ?_)
              refine wpAnyH_take (i := 0) (oi := _) (v := ?_) rfl (by kernel_rfl) (by kernel_rfl) (by kernel_rfl) (fun _ _ _ h => h) (Or.inl ⟨by rfl, ?_⟩) hHeld ?_
              rotate_left
              · (intro w hSw; (try dsimp only at hSw); go_simp; (try with_reducible rfl))
              try simp only [Act.put, List.setIfInBounds_toArray, List.set_cons_zero, List.set_cons_succ, List.getElem_toArray, List.getElem_cons_succ, List.getElem_cons_zero]
              refine wpAnyH_take (i := 2) (oi := _) (v := ?_) rfl (by kernel_rfl) (by kernel_rfl) (by kernel_rfl) (fun _ _ _ h => h) (Or.inl ⟨by rfl, ?_⟩) hHeld ?_
              rotate_left
              · (intro w hSw; (try dsimp only at hSw); go_simp; (try with_reducible rfl))
              try simp only [Act.put, List.setIfInBounds_toArray, List.set_cons_zero, List.set_cons_succ, List.getElem_toArray, List.getElem_cons_succ, List.getElem_cons_zero]
              refine wpAnyH_take (i := 3) (oi := _) (v := ?_) rfl (by kernel_rfl) (by kernel_rfl) (by kernel_rfl) (fun _ _ _ h => h) (Or.inl ⟨by rfl, ?_⟩) hHeld ?_
              rotate_left
              · (intro w hSw; (try dsimp only at hSw); go_simp; (try with_reducible rfl))
              try simp only [Act.put, List.setIfInBounds_toArray, List.set_cons_zero, List.set_cons_succ, List.getElem_toArray, List.getElem_cons_succ, List.getElem_cons_zero]
              refine wpAnyH_ready (rs := [1]) (by kernel_rfl) (by simp) ?_
              refine AllReadyH.cons (o := _) rfl (fun K hK => ?_) AllReadyH.nil
              go_simp
              (with_reducible refine (HCL.out _ (Below.drew B.out)).mono ?_)
              rintro e60 V1 ⟨AR, nr, cr, rfl, horr, hv⟩
              have HV := Lib.hid (kp_call (Below.drew (Below.refl W12.heap.size W12)) hv)
              have ORW := Lib.hid horr
              have hx := kp_cell HV.out x2
              clear hv horr hHeld
              go_wp2_with fail
              refine hK.out _ _ ?_ (fun hHeld => ?_)
              · exact hx
              clear hK K
              try simp only [Act.put, List.setIfInBounds_toArray, List.set_cons_zero, List.set_cons_succ, List.getElem_toArray, List.getElem_cons_succ, List.getElem_cons_zero]
              have HC1 := Lib.hid (has_below HC.out HV.out)
              have k0 : _ = some (.slice none 0 0 : Value) := Lib.cell_of_heap HC1.out 0
              have f0 := Lib.frozen_of_heap HC1.out 0
              have k1 : _ = some (.slice none 0 0 : Value) := Lib.cell_of_heap HC1.out 1
              have f1 := Lib.frozen_of_heap HC1.out 1
              have hgne : g4 ≠ gc := by omega
              refine wpAnyH_take (i := 4) (oi := _) (v := ?_) rfl (by kernel_rfl) (by kernel_rfl) (by kernel_rfl) (fun _ _ _ h => h) (Or.inl ⟨by rfl, ?_⟩) hHeld ?_
              rotate_left
              · (intro w hSw; (try dsimp only at hSw); go_simp; (try with_reducible rfl))
              try simp only [Act.put, List.setIfInBounds_toArray, List.set_cons_zero, List.set_cons_succ, List.getElem_toArray, List.getElem_cons_succ, List.getElem_cons_zero]
              refine wpAnyH_ready (rs := [5]) (by kernel_rfl) (by simp) ?_
              refine AllReadyH.cons (o := _) rfl (fun K hK => ?_) AllReadyH.nil
              go_simp
              refine hK.out _ _ ?_ (fun hHeld => ?_)
              · exact (World.cell?_of_block (a := ⟨g4, 2, none⟩) (heap_set_far V1 gc g4 0 _ hgne)).trans hx
              clear hK K
              try simp only [Act.put, List.setIfInBounds_toArray, List.set_cons_zero, List.set_cons_succ, List.getElem_toArray, List.getElem_cons_succ, List.getElem_cons_zero]
              refine wpAnyH_take (i := 6) (oi := _) (v := ?_) rfl (by kernel_rfl) (by kernel_rfl) (by kernel_rfl) (fun _ _ _ h => h) (Or.inl ⟨by rfl, ?_⟩) hHeld ?_
              rotate_left
              · (intro w hSw; (try dsimp only at hSw); go_simp; (try with_reducible rfl))
              try simp only [Act.put, List.setIfInBounds_toArray, List.set_cons_zero, List.set_cons_succ, List.getElem_toArray, List.getElem_cons_succ, List.getElem_cons_zero]
              refine wpAnyH_ready (rs := [7]) (by kernel_rfl) (by simp) ?_
              refine AllReadyH.cons (o := _) rfl (fun K hK => ?_) AllReadyH.nil
              go_simp
              refine hK.out _ _ ?_ (fun hHeld => ?_)
              · exact (World.cell?_of_block (a := ⟨g4, 2, none⟩) (heap_set_far _ gc g4 1 _ hgne)).trans hHeld
              clear hK K
              try simp only [Act.put, List.setIfInBounds_toArray, List.set_cons_zero, List.set_cons_succ, List.getElem_toArray, List.getElem_cons_succ, List.getElem_cons_zero]
              try simp only [Act.put, List.setIfInBounds_toArray, List.set_cons_zero, List.set_cons_succ, List.getElem_toArray, List.getElem_cons_succ, List.getElem_cons_zero]
              refine wpAnyH_done (by kernel_rfl) ?_ _
              refine NoPanic.normal ?_
              refine wp_nmP fun WF hWF => ?_
              clear k0 f0 k1 f1 HC1 hx x0 x1 x2 hHeld
              have hb := HV.out
              have FR0 : FarS (v1.ra, v1.rn, v1.rc) (AR, nr, cr) := blk_ne X1.out.r ORW.out (Nat.le_refl _)
              have FR1 : FarS iss (AR, nr, cr) := blk_ne OI.out ORW.out (Nat.le_refl _)
              have FR2 : FarS sub (AR, nr, cr) := blk_ne OS.out ORW.out (Nat.le_refl _)
              have FR3 : FarS ser (AR, nr, cr) := blk_ne OR.out ORW.out (Nat.le_refl _)
              have FR4 : FarS sn (AR, nr, cr) := blk_ne ON.out ORW.out (Nat.le_refl _)
              have FR5 : FarS (AG, ng, cg) (AR, nr, cr) := blk_ne OG.out ORW.out (Nat.le_refl _)
              have HFR := Lib.hid (And.intro FR0 (And.intro FR1 (And.intro FR2 (And.intro FR3 (And.intro FR4 FR5)))))
              have LR := Lib.hid B.out.size
              clear FR0 FR1 FR2 FR3 FR4 FR5
              replace B := Lib.hid (kp_call B.out hb)
              replace Y1 := Lib.hid (has_below Y1.out hb)
              replace R := Lib.hid (R.out.below hb)
              replace X1 := Lib.hid (X1.out.below hb)
              replace Z := Lib.hid (has_below Z.out hb)
              replace OI := Lib.hid (OI.out.below hb (Nat.le_refl _))
              replace OS := Lib.hid (OS.out.below hb (Nat.le_refl _))
              replace OR := Lib.hid (OR.out.below hb (Nat.le_refl _))
              replace ON := Lib.hid (ON.out.below hb (Nat.le_refl _))
              replace HC := Lib.hid (has_below HC.out hb)
              replace OG := Lib.hid (OG.out.below hb (Nat.le_refl _))
              clear hb
              replace ORW := Lib.hid (OwnB.lower ORW.out LR.out)
              have hg : V1.grownBy WF (some gc) := by rw [← hWF]; exact grown_tr (grown_one V1 gc 0 (.slice AR nr cr)) (grown_one _ gc 1 (.slice v1.ra v1.rn v1.rc))
              have hz : WF.heap[gc]? = some (.cells #[.slice AR nr cr, .slice v1.ra v1.rn v1.rc, .slice iss.1 iss.2.1 iss.2.2, .slice sub.1 sub.2.1 sub.2.2, .slice ser.1 ser.2.1 ser.2.2, .int .u16 (q5.frm.y : Int), .int .u8 (q5.frm.mo.toNat : Int), .int .u8 (q5.frm.d.toNat : Int), .int .u8 (q5.frm.h.toNat : Int), .int .u8 (q5.frm.mi.toNat : Int), .int .u8 (q5.frm.s.toNat : Int), .int .u16 (q5.til.y : Int), .int .u8 (q5.til.mo.toNat : Int), .int .u8 (q5.til.d.toNat : Int), .int .u8 (q5.til.h.toNat : Int), .int .u8 (q5.til.mi.toNat : Int), .int .u8 (q5.til.s.toNat : Int), .slice sn.1 sn.2.1 sn.2.2, .int .u64 (q5.e : Int), .slice AG ng cg, .bool q5.xt.ca, .int .i64 q5.xt.path, .int .i64 q5.xt.usage, .bool q5.xt.code] 33) := by rw [← hWF]; exact heap_set_at _ gc 1 _ _ _ (.slice v1.ra v1.rn v1.rc) (heap_set_at V1 gc 0 _ _ _ (.slice AR nr cr) HC.out)
              replace B := Lib.hid (kp_grown B.out hg (by omega))
              replace Y1 := Lib.hid (has_grown Y1.out hg (by omega))
              replace R := Lib.hid (R.out.kept hg HC.out (by decide) (by decide) (by omega))
              replace X1 := Lib.hid (X1.out.kept hg HC.out (by decide))
              replace Z := Lib.hid (has_grown Z.out hg (by omega))
              replace OI := Lib.hid (OI.out.keptK hg HC.out (by decide))
              replace OS := Lib.hid (OS.out.keptK hg HC.out (by decide))
              replace OR := Lib.hid (OR.out.keptK hg HC.out (by decide))
              replace ON := Lib.hid (ON.out.keptK hg HC.out (by decide))
              replace OG := Lib.hid (OG.out.keptK hg HC.out (by decide))
              replace ORW := Lib.hid (ORW.out.keptK hg HC.out (by decide))
              replace HC := Lib.hid hz
              clear hz hg hWF HV
              obtain ⟨DF, HDF, HC9⟩ : ∃ DF, Hid (#[.slice AR nr cr, .slice v1.ra v1.rn v1.rc, .slice iss.1 iss.2.1 iss.2.2, .slice sub.1 sub.2.1 sub.2.2, .slice ser.1 ser.2.1 ser.2.2, .int .u16 (q5.frm.y : Int), .int .u8 (q5.frm.mo.toNat : Int), .int .u8 (q5.frm.d.toNat : Int), .int .u8 (q5.frm.h.toNat : Int), .int .u8 (q5.frm.mi.toNat : Int), .int .u8 (q5.frm.s.toNat : Int), .int .u16 (q5.til.y : Int), .int .u8 (q5.til.mo.toNat : Int), .int .u8 (q5.til.d.toNat : Int), .int .u8 (q5.til.h.toNat : Int), .int .u8 (q5.til.mi.toNat : Int), .int .u8 (q5.til.s.toNat : Int), .slice sn.1 sn.2.1 sn.2.2, .int .u64 (q5.e : Int), .slice AG ng cg, .bool q5.xt.ca, .int .i64 q5.xt.path, .int .i64 q5.xt.usage, .bool q5.xt.code] = DF) ∧ Hid (_ = some (Obj.cells DF 33 (0, 0))) := ⟨_, Lib.hid rfl, HC⟩
              have HSZ : Hid (DF.size = 24) := by rw [← HDF.out]; exact Lib.hid rfl
              have HALL : Hid (DF.all (·.oneCell') = true) := by rw [← HDF.out]; unfold Hid; simp [Value.oneCell']
              have HIN : Hid ((Try.prog.info? 33).map (·.size) = some DF.size) := by rw [HSZ.out]; unfold Hid; kernel_rfl
              clear HC
              go_wp2_with (first | (refine wpList_load_row rfl _ _ rfl gc rfl _ DF _ _ HC9.out Try.underlying33 rfl HIN.out ?_) | (refine wpList_store_row rfl _ _ _ rfl w.heap.size DF rfl rfl _ _ Y1.out HIN.out (by rw [HSZ.out]; rfl) HALL.out ?_))
              refine bodyPost_ret (results_c Try.results38 _ (LV.agg (setRow_heap _ _ _ _ _ _ Y1.out) Try.underlying33 rfl HIN.out)) rfl ?_
              rw [← HDF.out]
              refine PO.mk (x := { q5 with sig := q10, raw := bs, tbs := v1.raw }) (by simp only [whQ, Option.bind_some, Option.bind_none, nxQ, enQ, List.map_cons, List.map_nil, HQ1.out, HQ2.out, HQ5.out, HQ8.out, HQ10.out]; rfl) ⟨(AR, nr, cr), (v1.ra, v1.rn, v1.rc), iss, sub, ser, sn, (AG, ng, cg), rfl, ?_, ?_, ?_, ?_, ?_, ?_, ?_, ?_, HYY.out.1, HYY.out.2⟩ (below_setRow B.out (Nat.le_refl _) _)
              · exact ORW.out.keptK (grown_row _ _ _) Y1.out (by decide)
              · exact (X1.out.r.keptK (grown_row _ _ _) Y1.out (by decide)).lower LB.out
              · exact OwnB.keptK OI.out (grown_row _ _ _) Y1.out (by decide)
              · exact OwnB.keptK OS.out (grown_row _ _ _) Y1.out (by decide)
              · exact OwnB.keptK OR.out (grown_row _ _ _) Y1.out (by decide)
              · exact OwnB.keptK ON.out (grown_row _ _ _) Y1.out (by decide)
              · exact OG.out.keptK (grown_row _ _ _) Y1.out (by decide)
              · obtain ⟨r0, r1, r2, r3, r4, r5⟩ := HFR.out
                obtain ⟨t1, t2, t3, t4⟩ := HFT.out
                obtain ⟨s0, s1, s2, s3, s4⟩ := HFG.out
                have hp := HPW.out
                simp only [List.pairwise_cons, List.mem_cons, List.not_mem_nil, or_false, forall_eq_or_imp, forall_eq] at hp ⊢
                obtain ⟨⟨a1, a2, a3⟩, ⟨a4, a5⟩, a6, _⟩ := hp
                exact ⟨⟨r0.symm, r1.symm, r2.symm, r3.symm, r4.symm, r5.symm⟩, ⟨t1, t2, t3, t4, s0⟩, ⟨a1, a2, a3, s1⟩, ⟨a4, a5, s2⟩, ⟨a6, s3⟩, s4, fun _ h => h.elim, List.Pairwise.nil⟩
end Go.Proofs.Ytomolfdcdmncoaa
namespace Go.Proofs.Ytomolfdcdmncoaa
open Go.RowKit Go
set_option linter.unusedVariables false
set_option linter.unusedSimpArgs false
set_option maxRecDepth 100000
theorem catch_idle (g1 g2 : Nat) (w : World) :
    CallsD Try.prog 37 #[.pointer (some ⟨g1, 0, none⟩), .pointer (some ⟨g2, 0, none⟩)] .returning w fun e u' w' => e = .returned (.tuple #[]) ∧ u' = .returning ∧ w' = w := by
  refine callsD_of_wpS Try.func37 rfl fun c₀ cs hu => ?_
  apply wpS_seq
  apply wpS_region
  simp [wpOpsS, go_sem, recoverD, hu, Try.ntmps37, Exit.thenS]
  refine wpS_of_wp ?_
  simp only [Array.replicate_succ, Array.replicate_zero, List.push_toArray, List.setIfInBounds_toArray, List.set_cons_zero, List.set_cons_succ, List.append_toArray, List.nil_append, List.cons_append]
  go_wp2
  cases c₀
  simp_all [bodyPostS, results, Try.results37]
def cert0 : Array Value := #[.slice none 0 0, .slice none 0 0, .slice none 0 0, .slice none 0 0, .slice none 0 0, .int .u16 0, .int .u8 0, .int .u8 0, .int .u8 0, .int .u8 0, .int .u8 0, .int .u16 0, .int .u8 0, .int .u8 0, .int .u8 0, .int .u8 0, .int .u8 0, .slice none 0 0, .int .u64 0, .slice none 0 0, .bool false, .int .i64 0, .int .i64 0, .bool false]
set_option maxHeartbeats 2000000 in
theorem catch_fault (g1 g2 : Nat) (older : List PanicEntry) (x : Value) (w : World) (h1 : w.heap[g1]? = some (.cells cert0 33)) (h2 : w.heap[g2]? = some (.cells #[x] 36)) (hne : g1 ≠ g2) :
    CallsD Try.prog 37 #[.pointer (some ⟨g1, 0, none⟩), .pointer (some ⟨g2, 0, none⟩)] (.panicking (flt :: older)) w fun e u' w' => e = .returned (.tuple #[]) ∧ u' = .panicking ({ flt with recovered := true } :: older) ∧ w'.heap[g1]? = some (.cells cert0 33) ∧ w'.heap[g2]? = some (.cells #[.int .i64 9] 36) ∧
      (∀ v, Below v.heap.size v w → v.heap.size ≤ g1 → v.heap.size ≤ g2 → Below v.heap.size v w') := by
  have hta : ∀ W : World, (Instr.typeAssert (.iface 82 (.agg #[.int .i64 9])) 20 82 true).run Try.prog W = .ok (.tuple #[.agg #[.int .i64 9], .bool true]) W := fun W => by kernel_rfl
  have H1 := Lib.hid h1
  have H2 := Lib.hid h2
  have hl1 := block_lt h1
  have hl2 := block_lt h2
  clear h1 h2
  refine callsD_of_wpS Try.func37 rfl fun c₀ cs hu => ?_
  have hu' : c₀.mode = .panicking ({ v := .iface 82 (.agg #[.int .i64 9]), recovered := false } :: older) := hu
  apply wpS_seq
  apply wpS_region
  simp [wpOpsS, go_sem, recoverD, hu', Try.ntmps37, Exit.thenS]
  refine wpS_of_wp ?_
  simp only [Array.replicate_succ, Array.replicate_zero, List.push_toArray, List.setIfInBounds_toArray, List.set_cons_zero, List.set_cons_succ, List.append_toArray, List.nil_append, List.cons_append]
  go_upto_region 5 with (fail)
  obtain ⟨g3, hg3⟩ : ∃ g3, w.heap.size = g3 := ⟨_, rfl⟩
  refine wp_nm fun W1 hW1 => ?_
  have hb : Below w.heap.size w W1 := by rw [← hW1]; exact kp_alloc (Below.refl _ _) _
  have h3 : W1.heap[g3]? = some (.cells #[.int .i64 9] 82) := by rw [← hW1, ← hg3]; exact has_new _ _
  replace H1 := Lib.hid (has_below H1.out hb)
  replace H2 := Lib.hid (has_below H2.out hb)
  have HB := Lib.hid hb
  have hn1 : g1 ≠ g3 := by omega
  have hn2 : g2 ≠ g3 := by omega
  have x3 := cells_1 h3
  try rw [hg3]
  clear hW1 hb h3 hg3 hl1 hl2
  refine wp_region_noPanic ?_
  refine wp_region_held_drew (S := fun W9 => W9.cell? ⟨g3, 0, none⟩ = some (.int .i64 9)) (by kernel_rfl) x3 (fun hHeld => ?_)
  refine wpAnyH_take (i := 0) (oi := _) (v := .agg cert0) rfl (by kernel_rfl) (by kernel_rfl) (by kernel_rfl) (fun _ _ _ h => h) (Or.inl ⟨by rfl, fun w _ => by kernel_rfl⟩) hHeld ?_
  try simp only [Act.put, List.setIfInBounds_toArray, List.set_cons_zero, List.set_cons_succ, List.getElem_toArray, List.getElem_cons_succ, List.getElem_cons_zero]
  refine wpAnyH_take (i := 1) (oi := _) (v := ?_) rfl (by kernel_rfl) (by kernel_rfl) (by kernel_rfl) (fun _ _ _ h => h) (Or.inl ⟨by rfl, ?_⟩) hHeld ?_
  rotate_left
  · (intro w hSw; (try dsimp only at hSw); go_simp; (try with_reducible rfl))
  try simp only [Act.put, List.setIfInBounds_toArray, List.set_cons_zero, List.set_cons_succ, List.getElem_toArray, List.getElem_cons_succ, List.getElem_cons_zero]
  refine wpAnyH_take (i := 2) (oi := _) (v := ?_) rfl (by kernel_rfl) (by kernel_rfl) (by kernel_rfl) (fun _ _ _ h => h) (Or.inl ⟨by rfl, ?_⟩) hHeld ?_
  rotate_left
  · (intro w hSw; (try dsimp only at hSw); go_simp; (try with_reducible rfl))
  try simp only [Act.put, List.setIfInBounds_toArray, List.set_cons_zero, List.set_cons_succ, List.getElem_toArray, List.getElem_cons_succ, List.getElem_cons_zero]
  refine wpAnyH_ready (rs := [3]) (by kernel_rfl) (by simp) ?_
  refine AllReadyH.cons (o := _) rfl (fun K hK => ?_) AllReadyH.nil
  rw [if_pos (by rfl)]
  refine wp_store_row _ _ _ rfl g1 cert0 rfl rfl _ _ (has_drew H1.out) (by kernel_rfl) rfl (by simp [cert0, Value.oneCell']) ?_
  refine hK.out _ _ ?_ (fun hHeld => ?_)
  · exact (World.cell?_of_block (a := ⟨g3, 0, none⟩) (setRow_other _ g1 g3 _ hn1.symm)).trans x3
  clear hK K
  try simp only [Act.put, List.setIfInBounds_toArray, List.set_cons_zero, List.set_cons_succ, List.getElem_toArray, List.getElem_cons_succ, List.getElem_cons_zero]
  have HG2 : (W1.drew.setRow g1 cert0).heap[g2]? = some (.cells #[x] 36) := (setRow_other _ g1 g2 _ hne.symm).trans (has_drew H2.out)
  have k0 := cells_1 HG2
  have f0 := free_1 HG2
  have HX := Lib.hid HG2
  clear HG2
  refine wpAnyH_ready (rs := [4]) (by kernel_rfl) (by simp) ?_
  refine AllReadyH.cons (o := _) rfl (fun K hK => ?_) AllReadyH.nil
  go_simp
  refine hK.out _ _ ?_ (fun hHeld => ?_)
  · exact (World.cell?_of_block (a := ⟨g3, 0, none⟩) (heap_set_far _ g2 g3 0 _ hn2.symm)).trans hHeld
  clear hK K
  try simp only [Act.put, List.setIfInBounds_toArray, List.set_cons_zero, List.set_cons_succ, List.getElem_toArray, List.getElem_cons_succ, List.getElem_cons_zero]
  refine wpAnyH_done (by kernel_rfl) ?_ _
  refine NoPanic.normal ?_
  clear k0 f0 hHeld x3
  refine wp_nmP fun WF hWF => ?_
  have r1 : WF.heap[g1]? = some (.cells cert0 33) := by rw [← hWF]; exact (heap_set_far _ g2 g1 0 _ hne).trans (setRow_heap _ _ _ _ _ _ (has_drew H1.out))
  have r2 : WF.heap[g2]? = some (.cells #[.int .i64 9] 36) := by rw [← hWF]; exact set_1 HX.out
  have r3 : ∀ v, Below v.heap.size v w → v.heap.size ≤ g1 → v.heap.size ≤ g2 → Below v.heap.size v WF := by
    intro v hv h1 h2
    rw [← hWF]
    exact kp_set (below_setRow (kp_call hv HB.out).drew h1 _) h2
  have HR := Lib.hid (And.intro r1 (And.intro r2 r3))
  clear r1 r2 r3 hWF HX
  go_wp2
  exact ⟨rfl, _, rfl, _, results_none rfl _ _ _, rfl, rfl, HR.out⟩
end Go.Proofs.Ytomolfdcdmncoaa
namespace Go.Proofs.Ytomolfdcdmncoaa
open Go.RowKit Go
set_option linter.unusedVariables false
set_option linter.unusedSimpArgs false
set_option maxRecDepth 100000
/-- What Parse answers. -/
def CeP (w : World) (bs : List UInt8) (e : Ending) (w' : World) : Prop := (match certQ bs with
  | .inl er => e = .returned (.tuple #[.agg cert0, .int .i64 (er : Int)])
  | .inr c => ∃ raw tbs iss sub ser n sig : S3, e = .returned (.tuple #[.agg (certC raw tbs iss sub ser c.frm c.til n c.e sig c.xt), .int .i64 0]) ∧
      OwnS3 w' w.heap.size raw c.raw ∧ OwnS3 w' w.heap.size tbs c.tbs ∧ OwnS3 w' w.heap.size iss c.iss ∧ OwnS3 w' w.heap.size sub c.sub ∧ OwnS3 w' w.heap.size ser c.ser ∧ OwnS3 w' w.heap.size n c.n ∧ OwnS3 w' w.heap.size sig c.sig ∧
      [raw, tbs, iss, sub, ser, n, sig].Pairwise FarS ∧ c.frm.y < 65536 ∧ c.til.y < 65536) ∧ Below w.heap.size w w'
theorem ceP_no {w w' : World} {bs : List UInt8} {er : Nat} {x : Int} (h : certQ bs = .inl er) (hx : x = (er : Int)) (hb : Below w.heap.size w w') : CeP w bs (.returned (.tuple #[.agg cert0, .int .i64 x])) w' := by
  subst hx
  unfold CeP
  rw [h]
  exact ⟨rfl, hb⟩
set_option maxHeartbeats 8000000 in
theorem cparse_any (A : Option Addr) (n c : Nat) (bs : List UInt8) (w : World) (hR : RB w A n bs) (hnc : n ≤ c) (hc : c ≤ maxLen) (hn : n ≤ 1000000) : Calls Try.prog 15 #[.slice A n c] w (CeP w bs) := by
  have hl := hR.1
  have HCK := Lib.hid (fun W (hb : Below w.heap.size w W) => Check_any A n c bs W (hR.below hb) hnc (by omega) (maxLen_i64 hc))
  have HRR := Lib.hid hR
  have hmf : ∀ (fn : Fn) (first cap : Array Value) (w : World), (Instr.makeFunc fn first cap).run Try.prog w = .ok (.func fn first cap) w := fun _ _ _ _ => rfl
  clear hR
  go_enter_defers Try.func15, Try.ntmps15
  go_upto_region 1 with (fail)
  refine wp_nm fun W1 hW1 => ?_
  have B : Hid (Below w.heap.size w W1) := by rw [← hW1]; exact Lib.hid (kp_alloc (kp_alloc (Below.refl _ _) _) _)
  have Z1 : Hid (W1.heap[w.heap.size]? = some (.cells cert0 33)) := by rw [← hW1]; exact Lib.hid (has_alloc (has_new _ _) _)
  have Z2 : Hid (W1.heap[w.heap.size + 1]? = some (.cells #[.int .i64 0] 36)) := by rw [← hW1]; exact Lib.hid (has_new' _ _ _ (by simp))
  clear hW1
  by_cases h8 : 8192 < n
  · have HQ : Hid (certQ bs = .inl 10) := by unfold certQ; rw [if_pos (by omega)]; exact Lib.hid rfl
    have p1 : decide ((8192 : Int) < (n : Int)) = true := decide_eq_true (by omega)
    have HX2 := Lib.hid ((setRow_other W1 w.heap.size (w.heap.size + 1) cert0 (by omega)).trans Z2.out)
    have y0 := cells_1 HX2.out
    have f0 := free_1 HX2.out
    go_wp2_with (first | (refine wpList_buildTo rfl 33 _ rfl _ rfl cert0 (by kernel_rfl) ?_) | (refine wpList_store_row rfl _ _ _ rfl w.heap.size cert0 rfl rfl _ _ Z1.out (by kernel_rfl) rfl (by simp [cert0, Value.oneCell']) ?_))
    refine ⟨_, results_cc Try.results15 _ (LV.agg ((heap_set_far _ (w.heap.size + 1) w.heap.size 0 _ (by omega)).trans (setRow_heap _ _ _ cert0 _ _ Z1.out)) Try.underlying33 rfl (by kernel_rfl)) (LV.one (cells_1 (set_1 HX2.out)) (by intro w; kernel_rfl)), ?_⟩
    exact ceP_no HQ.out rfl (kp_set (below_setRow B.out (Nat.le_refl _) _) (by omega))
  have p1 : decide ((8192 : Int) < (n : Int)) = false := decide_eq_false (by omega)
  go_wp2_with fail
  refine (HCK.out _ B.out).mono ?_
  rintro e W2 ⟨rfl, hb⟩
  replace B := Lib.hid (kp_call B.out hb)
  replace Z1 := Lib.hid (has_below Z1.out hb)
  replace Z2 := Lib.hid (has_below Z2.out hb)
  clear hb HCK
  obtain ⟨er, her⟩ : ∃ er, checkQ bs = er := ⟨_, rfl⟩
  rw [her]
  have HE := Lib.hid her
  clear her
  by_cases h0 : er = 0
  rotate_left
  · have HQ : Hid (certQ bs = .inl er) := by unfold certQ; rw [if_neg (by omega), if_pos (by rw [HE.out]; exact h0), HE.out]; exact Lib.hid rfl
    have p2 : ((er : Int) != 0) = true := by simp; omega
    have HX2 := Lib.hid ((setRow_other W2 w.heap.size (w.heap.size + 1) cert0 (by omega)).trans Z2.out)
    have y0 := cells_1 HX2.out
    have f0 := free_1 HX2.out
    go_wp2_with (first | (refine wpList_buildTo rfl 33 _ rfl _ rfl cert0 (by kernel_rfl) ?_) | (refine wpList_store_row rfl _ _ _ rfl w.heap.size cert0 rfl rfl _ _ Z1.out (by kernel_rfl) rfl (by simp [cert0, Value.oneCell']) ?_))
    refine ⟨_, results_cc Try.results15 _ (LV.agg ((heap_set_far _ (w.heap.size + 1) w.heap.size 0 _ (by omega)).trans (setRow_heap _ _ _ cert0 _ _ Z1.out)) Try.underlying33 rfl (by kernel_rfl)) (LV.one (cells_1 (set_1 HX2.out)) (by intro w; kernel_rfl)), ?_⟩
    exact ceP_no HQ.out rfl (kp_set (below_setRow B.out (Nat.le_refl _) _) (by omega))
  have p2 : ((er : Int) != 0) = false := by rw [h0]; rfl
  have HE0 := Lib.hid (HE.out.trans h0)
  have hnp : 0 < n := by
    rcases Nat.eq_zero_or_pos n with hz | hz
    · exfalso
      have hbs : bs = [] := List.eq_nil_of_length_eq_zero (hl.trans hz)
      have h9 := HE0.out
      rw [hbs] at h9
      revert h9
      unfold checkQ
      rw [allQ_nil]
      decide
    · exact hz
  obtain ⟨ab, ao, q0, rfl, _⟩ := HRR.out.at_ hnp
  have HQ0 : Hid (certQ bs = match whQ bs with | none => .inl 9 | some c => .inr c) := by unfold certQ; rw [if_neg (by omega), if_neg (by rw [HE0.out]; simp)]; exact Lib.hid rfl
  clear h0
  go_wp2_with fail
  refine (whole_any ⟨ab, ao, none⟩ n c bs _ (HRR.out.below B.out) hnc hc hn).mono ?_
  rintro e W3 hp
  cases hq : whQ bs with
  | none =>
    obtain ⟨rfl, hb⟩ := hp.no hq
    have HQ : Hid (certQ bs = .inl 9) := Lib.hid (by rw [HQ0.out, hq])
    replace B := Lib.hid (kp_call B.out hb)
    replace Z1 := Lib.hid (has_below Z1.out hb)
    replace Z2 := Lib.hid (has_below Z2.out hb)
    clear hb hp hq
    go_wp2
    refine leaves_cons (f := 37) (args := #[.pointer (some ⟨w.heap.size, 0, none⟩), .pointer (some ⟨w.heap.size + 1, 0, none⟩)]) (by simp) (by simp [go_sem]) ?_
    refine (catch_fault w.heap.size (w.heap.size + 1) [] (.int .i64 0) W3 Z1.out Z2.out (by omega)).mono ?_
    rintro e u' w'' ⟨rfl, rfl, h1, h2, h3⟩
    refine ⟨_, results_cc Try.results15 _ (LV.agg h1 Try.underlying33 rfl (by kernel_rfl)) (LV.one (cells_1 h2) (by intro w; kernel_rfl)), ?_⟩
    exact ceP_no HQ.out rfl (h3 w B.out (Nat.le_refl _) (by omega))
  | some c =>
    obtain ⟨⟨raw, tbs, iss, sub, ser, sn, sig, rfl, o1, o2, o3, o4, o5, o6, o7, hpw, hy1, hy2⟩, hb⟩ := hp.yes hq
    have HQ : Hid (certQ bs = .inr c) := Lib.hid (by rw [HQ0.out, hq])
    have LB := Lib.hid B.out.size
    replace B := Lib.hid (kp_call B.out hb)
    replace Z1 := Lib.hid (has_below Z1.out hb)
    replace Z2 := Lib.hid (has_below Z2.out hb)
    have HO := Lib.hid (show OwnS3 W3 _ raw c.raw ∧ OwnS3 W3 _ tbs c.tbs ∧ OwnS3 W3 _ iss c.iss ∧ OwnS3 W3 _ sub c.sub ∧ OwnS3 W3 _ ser c.ser ∧ OwnS3 W3 _ sn c.n ∧ OwnS3 W3 _ sig c.sig from ⟨o1, o2, o3, o4, o5, o6, o7⟩)
    have HP := Lib.hid (And.intro hpw (And.intro hy1 hy2))
    clear hb hp hq o1 o2 o3 o4 o5 o6 o7 hpw hy1 hy2
    obtain ⟨DC, HDC⟩ : ∃ DC, Hid (certC raw tbs iss sub ser c.frm c.til sn c.e sig c.xt = DC) := ⟨_, Lib.hid rfl⟩
    rw [HDC.out]
    have HSZ : Hid (DC.size = 24) := by rw [← HDC.out]; exact Lib.hid rfl
    have HALL : Hid (DC.all (·.oneCell') = true) := by rw [← HDC.out]; unfold Hid; simp [certC, Value.oneCell']
    have HIN : Hid ((Try.prog.info? 33).map (·.size) = some DC.size) := by rw [HSZ.out]; unfold Hid; kernel_rfl
    have HX2 := Lib.hid ((setRow_other W3 w.heap.size (w.heap.size + 1) DC (by omega)).trans Z2.out)
    have y0 := cells_1 HX2.out
    have f0 := free_1 HX2.out
    go_wp2_with (refine wpList_store_row rfl _ _ _ rfl w.heap.size DC rfl rfl _ _ Z1.out HIN.out (by rw [HSZ.out]; rfl) HALL.out ?_)
    refine leaves_cons (f := 37) (args := #[.pointer (some ⟨w.heap.size, 0, none⟩), .pointer (some ⟨w.heap.size + 1, 0, none⟩)]) (by simp) (by simp [go_sem]) ?_
    refine (catch_idle w.heap.size (w.heap.size + 1) _).mono ?_
    rintro e u' w'' ⟨rfl, rfl, rfl⟩
    refine ⟨_, results_cc Try.results15 _ (LV.agg ((heap_set_far _ (w.heap.size + 1) w.heap.size 0 _ (by omega)).trans (setRow_heap _ _ _ DC _ _ Z1.out)) Try.underlying33 rfl HIN.out) (LV.one (cells_1 (set_1 HX2.out)) (by intro w; kernel_rfl)), ?_⟩
    have hk : ∀ (s : S3) (l : List UInt8), OwnS3 W3 W2.heap.size s l → OwnS3 ((W3.setRow w.heap.size DC).setCell ⟨w.heap.size + 1, 0, none⟩ (.int .i64 0)) w.heap.size s l := fun s l ho =>
      OwnB.keptK (OwnB.keptK (OwnB.lower ho LB.out) (grown_row _ _ _) Z1.out (by decide)) (grown_one _ _ _ _) HX2.out (by decide)
    obtain ⟨o1, o2, o3, o4, o5, o6, o7⟩ := HO.out
    unfold CeP
    rw [HQ.out, ← HDC.out]
    exact ⟨⟨raw, tbs, iss, sub, ser, sn, sig, rfl, by rw [HDC.out]; exact hk _ _ o1, by rw [HDC.out]; exact hk _ _ o2, by rw [HDC.out]; exact hk _ _ o3, by rw [HDC.out]; exact hk _ _ o4, by rw [HDC.out]; exact hk _ _ o5, by rw [HDC.out]; exact hk _ _ o6, by rw [HDC.out]; exact hk _ _ o7, HP.out.1, HP.out.2.1, HP.out.2.2⟩, kp_set (below_setRow B.out (Nat.le_refl _) _) (by omega)⟩
end Go.Proofs.Ytomolfdcdmncoaa
