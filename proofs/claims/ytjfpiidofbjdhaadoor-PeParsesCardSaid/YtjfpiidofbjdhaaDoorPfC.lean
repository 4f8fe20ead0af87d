/-
  pe: the document's sections.
-/
import Derived.Test.YtjfpiidofbjdhaaDoorPfB
import Derived.Test.YtjfpiidofbjdhaaDoorPeI
import Derived.Test.YtjfpiidofbjdhaaDoorStep
import Derived.Deep.RegionHeld3
namespace Go.Proofs.YtjfpiidofbjdhaaDoor
open Go.RowKit Go
set_option linter.unusedVariables false
set_option linter.unusedSimpArgs false
set_option maxRecDepth 100000
theorem readR_lit {W : World} {p t : Nat} {vs : List Value} (k : W.heap[p]? = some (.cells vs.toArray t)) : ReadR W (some ⟨p, 0, none⟩) vs := by
  refine fun _ => ⟨p, 0, rfl, block_lt k, fun j u hu => ?_⟩
  rw [show W.cell? ⟨p, 0 + j, none⟩ = _ from Lib.cell_of_heap k (0 + j)]
  rw [Nat.zero_add]
  simpa using hu
theorem gr_refP (w : World) (row : Option Nat) : w.grownBy w row := World.grownBy.refl _ _
theorem gr_drewP {w W : World} {row : Option Nat} (h : w.grownBy W row) : w.grownBy W.drew row := gr_new (h) ((Below.refl _ _).drew)
theorem gr_allocP {w W : World} {row : Option Nat} (h : w.grownBy W row) (o : Obj) : w.grownBy (W.alloc o) row := gr_new h ((Below.refl _ _).alloc h.size o)
theorem secIn_at (bs : List UInt8) (tab cnt i : Nat) (h : i < cnt) (hs : secIn bs tab cnt = true) : (inQ bs (tab + 40 * i + 16) 4 && inQ bs (tab + 40 * i + 20) 4) = true := by
  unfold secIn at hs
  exact List.all_eq_true.1 hs i (List.mem_range.2 h)
theorem chain_app (A B : List (Nat × Nat)) (e : Nat) : chainS (A ++ B) e = ((chainS A e).1 && (chainR B (chainS A e).2).1, (chainR B (chainS A e).2).2) := by
  unfold chainS
  rw [List.foldl_append]
  generalize A.foldl (fun s x => (s.1 && decide (x.1 = s.2), x.1 + x.2)) (true, e) = s
  obtain ⟨b, e'⟩ := s
  exact chain_fold B b e'
theorem chain_one (A : List (Nat × Nat)) (x : Nat × Nat) (e : Nat) : chainS (A ++ [x]) e = ((chainS A e).1 && decide (x.1 = (chainS A e).2), x.1 + x.2) := by
  rw [chain_app]
  simp [chainR]
theorem chain_take (L : List (Nat × Nat)) (e j : Nat) (h : (chainS L e).1 = true) : (chainS (L.take j) e).1 = true := by
  rw [← List.take_append_drop j L, chain_app, Bool.and_eq_true] at h
  exact h.1
def DSecPost (w : World) (bs : List UInt8) (tab cnt hdr n : Nat) (e : Ending) (w' : World) : Prop :=
  ∃ (V : Option Addr) (m cV en : Nat) (ok : Bool), e = .returned (.tuple #[.slice V m cV, .int .i64 (en : Nat), .bool ok]) ∧ Below w.heap.size w w' ∧
    ok = (secIn bs tab cnt && (chainS (riseL (secN bs tab cnt)) hdr).1 && decide ((chainS (riseL (secN bs tab cnt)) hdr).2 ≤ n)) ∧
    (ok = true → m = (secN bs tab cnt).length ∧ OwnR w' w.heap.size 43 2 V m cV ((secN bs tab cnt).flatMap secCells) ∧ en = (chainS (riseL (secN bs tab cnt)) hdr).2)
set_option maxHeartbeats 8000000 in
theorem dsections_any (A : Option Addr) (n c : Nat) (bs : List UInt8) (tab cnt hdr : Nat) (w : World) (hR : RB w A n bs) (hnc : n ≤ c) (hcc : c ≤ 9223372036854775807) (hn : n ≤ 16777216) (htab : tab ≤ 8589934592) (hcnt : cnt ≤ 96) (hhdr : hdr ≤ 8589934592) :
    Calls Tryd.prog 33 #[.slice A n c, .int .i64 (tab : Nat), .int .i64 (cnt : Nat), .int .i64 (hdr : Nat)] w (DSecPost w bs tab cnt hdr n) := by
  have HR := Lib.hid hR
  clear hR
  go_enter Tryd.func33, Tryd.ntmps33
  go_wp2_with (fail)
  go_loopw [11, 12, 13, 14] (fun vl vi v13 v14 wl => ∃ (i m cV : Nat) (V : Option Addr), vl = .slice V m cV ∧ vi = .int .i64 (i : Int) ∧ i ≤ cnt ∧ Hid (m = (secN bs tab i).length ∧ OwnR wl w.heap.size 43 2 V m cV ((secN bs tab i).flatMap secCells) ∧ Below w.heap.size w wl ∧ secIn bs tab i = true)) (fun _ vi _ _ _ => cnt - (intOf vi).toNat)
  case atStart => exact ⟨0, 0, 0, none, rfl, rfl, Nat.zero_le _, rfl, OwnR.nil _ _ _ _, Below.refl _ _, rfl⟩
  case round =>
    obtain ⟨i, m, cV, V, rfl, rfl, hi, HK⟩ := hrel
    have hml : m ≤ 96 := by have := HK.out.1; have := secN_len bs tab i; omega
    by_cases hlt : i < cnt
    · have i1 : decide ((i : Int) < (cnt : Int)) = true := by simp; omega
      have i1n : decide (i < cnt) = true := by simp; omega
      have e3 : IntKind.i64.wrap ((i : Int) + 1) = (i : Int) + 1 := IntWalk.i64_in _ (by omega)
      obtain ⟨p1, hp1⟩ : ∃ p, tab + 40 * i + 16 = p := ⟨_, rfl⟩
      obtain ⟨p2, hp2⟩ : ∃ p, tab + 40 * i + 20 = p := ⟨_, rfl⟩
      have e4 : IntKind.i64.wrap (40 * (i : Int)) = 40 * (i : Int) := IntWalk.i64_in _ (by omega)
      have e5 : IntKind.i64.wrap ((tab : Int) + 40 * (i : Int)) = (tab : Int) + 40 * (i : Int) := IntWalk.i64_in _ (by omega)
      have e6 : IntKind.i64.wrap ((tab : Int) + 40 * (i : Int) + 16) = (p1 : Int) := by rw [IntWalk.i64_in _ (by omega)]; omega
      have e7 : IntKind.i64.wrap ((tab : Int) + 40 * (i : Int) + 20) = (p2 : Int) := by rw [IntWalk.i64_in _ (by omega)]; omega
      have hpb : p1 ≤ 1099511627776 ∧ p2 ≤ 1099511627776 := by omega
      obtain ⟨sz, hsz⟩ : ∃ x, numQ bs p1 4 = x := ⟨_, rfl⟩
      obtain ⟨of, hof⟩ : ∃ x, numQ bs p2 4 = x := ⟨_, rfl⟩
      have hat : secAt bs tab i = (of, sz) := by unfold secAt; rw [hp1, hp2, hsz, hof]
      have l1 : sz < 4294967296 := by rw [← hsz]; exact numQ_lt4 _ _
      have l2 : of < 4294967296 := by rw [← hof]; exact numQ_lt4 _ _
      have C := Lib.hid (fun W (hb : Below w.heap.size w W) (hr : ReadR W (some ⟨wr.heap.size, 0, none⟩) [.int .i64 (p1 : Nat), .int .i64 4, .int .i64 (p2 : Nat), .int .i64 4]) => dnums_any A n c bs (some ⟨wr.heap.size, 0, none⟩) 2 2 [(p1, 4), (p2, 4)] W (HR.out.below hb) hnc hcc hn hr rfl (by decide) (by intro x hx; simp at hx; rcases hx with rfl | rfl <;> exact ⟨by simp; omega, .inr rfl⟩))
      have HB := Lib.hid HK.out.2.2.1
      have HA := Lib.hid (And.intro hat (And.intro hsz (And.intro hof (And.intro hp1 hp2))))
      clear hat hsz hof hp1 hp2
      go_upto_region 6 with (go_at_call 32; (with_reducible refine (C.out _ (kp_alloc HB.out _) (readR_lit (has_new _ _))).mono ?_); rintro e W1 ⟨⟨X, mx, cx, rfl, hx⟩, hb1⟩; have HX := Lib.hid (And.intro hx (kp_call (kp_alloc (Below.refl wr.heap.size wr) _) hb1)); clear C hx hb1)
      have HK1 : Hid (m = (secN bs tab i).length ∧ OwnR W1 w.heap.size 43 2 V m cV ((secN bs tab i).flatMap secCells) ∧ Below w.heap.size w W1 ∧ secIn bs tab i = true) := Lib.hid ⟨HK.out.1, HK.out.2.1.below HX.out.2 (Nat.le_refl _), kp_call HB.out HX.out.2, HK.out.2.2.2⟩
      have hall : allIn bs [(p1, 4), (p2, 4)] = (inQ bs p1 4 && inQ bs p2 4) := by simp [allIn]
      clear HK HB
      cases hq : allIn bs [(p1, 4), (p2, 4)] with
      | false =>
        rw [hq] at hall
        have hno : secIn bs tab cnt = false := by
          cases h9 : secIn bs tab cnt with
          | false => rfl
          | true =>
            have h8 := secIn_at bs tab cnt i hlt h9
            rw [HA.out.2.2.2.1, HA.out.2.2.2.2, ← hall] at h8
            cases h8
        have HNO := Lib.hid hno
        clear hall hno hq HX HA
        go_wp2_with (fail)
        refine bodyPost_ret (results_tmp3 Tryd.results33 _ _ _) rfl ?_
        exact ⟨none, 0, 0, 0, false, rfl, HK1.out.2.2.1, by rw [HNO.out]; rfl, fun h => by cases h⟩
      | true =>
        rw [hq] at hall
        obtain ⟨hx, _⟩ := HX.out
        obtain ⟨hm2, hrd⟩ := hx hq
        have hm22 : mx = 2 := hm2
        obtain ⟨gx, hgx, hgx2, _⟩ := hrd.shape (by have := hrd.cap.1; omega)
        clear hm22
        subst hgx
        have k0 := ownR_at hrd (j := 0) rfl
        have k1 := ownR_at hrd (j := 1) rfl
        unfold numV at k0 k1
        dsimp only at k0 k1
        rw [HA.out.2.1] at k0
        rw [HA.out.2.2.1] at k1
        have hneX : blk V = none ∨ blk V ≠ some gx := OwnR.ne HK1.out.2.1 hrd (by decide)
        have HXB : Hid (∀ W, W1.grownBy W (blk V) → (W.cell? ⟨gx, 0, none⟩ = some (.int .i64 (sz : Nat)) ∧ W.cell? ⟨gx, 1, none⟩ = some (.int .i64 (of : Nat))) ∧ W1.grownBy W (blk V)) := by
          refine Lib.hid (fun W hg => ?_)
          have h9 := hrd.kept hg (by
            right
            intro e
            rcases hneX with h | h
            · rw [h] at e; cases e
            · exact h e.symm)
          have a0 := ownR_at h9 (j := 0) rfl
          have a1 := ownR_at h9 (j := 1) rfl
          unfold numV at a0 a1
          dsimp only at a0 a1
          rw [HA.out.2.1] at a0
          rw [HA.out.2.2.1] at a1
          exact ⟨⟨a0, a1⟩, hg⟩
        have hmx : mx = 2 := hm2
        subst hmx
        have hin : secIn bs tab (i + 1) = true := by
          rw [secIn_succ, HK1.out.2.2.2, HA.out.2.2.2.1, HA.out.2.2.2.2, ← hall]
          rfl
        have HIN := Lib.hid hin
        clear hall hq hrd hm2 hx HX hin hneX hgx2
        have f1 : IntKind.u32.wrap (sz : Int) = (sz : Int) := IntWalk.u32_in _ (by omega)
        have f2 : IntKind.u32.wrap (of : Int) = (of : Int) := IntWalk.u32_in _ (by omega)
        by_cases hs0 : sz = 0
        · have u1 : decide ((0 : Int) < (sz : Int)) = false := by simp; omega
          have u1n : decide (0 < sz) = false := by simp; omega
          have hN : secN bs tab (i + 1) = secN bs tab i := secN_no bs tab i (by rw [HA.out.1]; exact hs0)
          have HN : Hid (m = (secN bs tab (i + 1)).length ∧ OwnR W1 w.heap.size 43 2 V m cV ((secN bs tab (i + 1)).flatMap secCells) ∧ Below w.heap.size w W1 ∧ secIn bs tab (i + 1) = true) := by rw [hN]; exact Lib.hid ⟨HK1.out.1, HK1.out.2.1, HK1.out.2.2.1, HIN.out⟩
          clear hs0 hN HK1 HA HIN
          go_wp2_with (fail)
          go_roundw
          case rel => exact ⟨i + 1, m, cV, V, rfl, by go_num, by omega, HN⟩
          case measure => simp [intOf]; omega
        · have u1 : decide ((0 : Int) < (sz : Int)) = true := by simp; omega
          have u1n : decide (0 < sz) = true := by simp; omega
          have hN : secN bs tab (i + 1) = secN bs tab i ++ [(of, sz)] := by
            have := secN_yes bs tab i (by rw [HA.out.1]; show 0 < sz; omega)
            rw [this, HA.out.1]
          have HNN := Lib.hid hN
          have hwz : w.heap.size ≤ W1.heap.size := HK1.out.2.2.1.size
          clear hs0 hN HA
          go_upto_region 9 with (fail)
          have B0 := Lib.hid (gr_refP W1 (blk V))
          have H1c : ∀ u ∈ [(.int .u32 (of : Nat) : Value), .int .u32 (sz : Nat)], u.oneCell' = true := by intro u hu; simp at hu; rcases hu with rfl | rfl <;> rfl
          have HC1 := Lib.hid H1c
          clear H1c k0 k1
          go_region_held3 (fun W => (W.cell? ⟨gx, 0, none⟩ = some (.int .i64 (sz : Nat)) ∧ W.cell? ⟨gx, 1, none⟩ = some (.int .i64 (of : Nat))) ∧ W1.grownBy W (blk V))
            ((apply HXB.out; repeat (with_reducible (first | assumption | exact B0.out | refine gr_drewP ?_ | refine gr_allocP ?_ _))))
            (first
              | (refine step_appR sec_row (by rfl) _ _ (by rfl) w.heap.size V m cV _ (by rfl) (HK1.out.2.1.alloc _) ⟨W1.heap.size, 0, none⟩ 1 1 [.int .u32 (of : Nat), .int .u32 (sz : Nat)] (by rfl) (by rfl) (cells_lit _ W1.heap.size #[.int .u32 (of : Nat), .int .u32 (sz : Nat)] 43 (0, 0) (heap_alloc_new _ _)) HC1.out (by omega) (by unfold maxLen; omega) (by omega) (by simp; omega) ?_; intro g3 c3 w3 ho3 hg3 hat3; have hG3 : W1.grownBy w3 (blk V) := grown_tr (gr_allocP B0.out _) hg3)
              | (refine step_appR sec_row (by rfl) _ _ (by rfl) w.heap.size V m cV _ (by rfl) (HK1.out.2.1.drew.alloc _) ⟨W1.heap.size, 0, none⟩ 1 1 [.int .u32 (of : Nat), .int .u32 (sz : Nat)] (by rfl) (by rfl) (cells_lit _ W1.heap.size #[.int .u32 (of : Nat), .int .u32 (sz : Nat)] 43 (0, 0) (heap_alloc_new _ _)) HC1.out (by omega) (by unfold maxLen; omega) (by omega) (by simp; omega) ?_; intro g3 c3 w3 ho3 hg3 hat3; have hG3 : W1.grownBy w3 (blk V) := grown_tr (gr_allocP (gr_drewP B0.out) _) hg3))
          have hb4 : Below w.heap.size w w3 := HK1.out.2.2.1.grown hG3 HK1.out.2.2.1.size (fun q hq => (HK1.out.2.1.blk_lt hq).1)
          have HN : Hid (m + 1 = (secN bs tab (i + 1)).length ∧ OwnR w3 w.heap.size 43 2 (some ⟨g3, 0, none⟩) (m + 1) c3 ((secN bs tab (i + 1)).flatMap secCells) ∧ Below w.heap.size w w3 ∧ secIn bs tab (i + 1) = true) := by
            rw [HNN.out]
            refine Lib.hid ⟨by rw [List.length_append, ← HK1.out.1]; rfl, ?_, hb4, HIN.out⟩
            rw [List.flatMap_append]
            exact ho3
          clear ho3 hg3 hat3 hG3 hb4 HK1 HIN HC1 B0 HXB
          go_wp2_with (fail)
          go_roundw
          case rel => exact ⟨i + 1, m + 1, c3, some ⟨g3, 0, none⟩, rfl, by go_num, by omega, HN⟩
          case measure => simp [intOf]; omega
    · have i1 : decide ((i : Int) < (cnt : Int)) = false := by simp; omega
      have i1n : decide (i < cnt) = false := by simp; omega
      obtain rfl : i = cnt := by omega
      obtain ⟨hm, ho, hb, hin⟩ := HK.out
      have C := Lib.hid (drise_any V m cV (secN bs tab i) wr ho.reads hm.symm (by omega))
      have HO := Lib.hid (And.intro hm (And.intro ho (And.intro hb hin)))
      clear hm ho hb hin HK
      go_upto_region 12 with (go_at_call 51; (with_reducible refine C.out.mono ?_); rintro e W2 ⟨X, mx, cx, L', rfl, hx⟩; have HX := Lib.hid hx; clear C hx)
      obtain ⟨x1, x2, x3, x4, x5⟩ := HX.out
      have hz : ∀ y ∈ secN bs tab i, 0 < y.2 := fun y hy => (secN_lt bs tab i y hy).2.2
      have CS := chain_same (secN bs tab i) L' hdr x2 x3 hz
      have hle : ∀ y ∈ L', y.1 < 4294967296 ∧ y.2 < 4294967296 := fun y hy => by
        have := secN_lt bs tab i y (x2.mem_iff.1 hy)
        exact ⟨this.1, this.2.1⟩
      have hlen : L'.length = mx := by rw [x2.length_eq, x1]
      have HC := Lib.hid (And.intro CS (And.intro hle hlen))
      have HP : Hid (OwnR W2 w.heap.size 43 2 V m cV ((secN bs tab i).flatMap secCells) ∧ ReadR W2 X (L'.flatMap secCells) ∧ Below w.heap.size w W2 ∧ m = (secN bs tab i).length ∧ secIn bs tab i = true) := Lib.hid ⟨HO.out.2.1.below x5 (Nat.le_refl _), x4.reads, kp_call HO.out.2.2.1 x5, HO.out.1, HO.out.2.2.2⟩
      have hmx : mx ≤ 96 := by rw [x1, ← HO.out.1]; exact hml
      clear x1 x2 x3 x4 x5 CS hle hlen hz HX HO
      go_wp2_with (fail)
      go_loopw [15, 17] (fun ve vj wl => ∃ (j en : Nat), ve = .int .i64 (en : Int) ∧ vj = .int .i64 (j : Int) ∧ j ≤ mx ∧ en ≤ 8589934592 ∧ Hid (chainS (L'.take j) hdr = (true, en)) ∧ wl = W2) (fun _ vj _ => mx - (intOf vj).toNat)
      case atStart => exact ⟨0, hdr, rfl, rfl, Nat.zero_le _, hhdr, rfl, rfl⟩
      case round =>
        obtain ⟨j, en, rfl, rfl, hj, hen, HJ, rfl⟩ := hrel
        by_cases hjl : j < mx
        · have u1 : decide ((j : Int) < (mx : Int)) = true := by simp; omega
          have u1n : decide (j < mx) = true := by simp; omega
          have u2 : (j : Int) < (mx : Int) := by omega
          have e3 : IntKind.i64.wrap ((j : Int) + 1) = (j : Int) + 1 := IntWalk.i64_in _ (by omega)
          obtain ⟨x, hx⟩ : ∃ x, L'[j]? = some x := ⟨_, List.getElem?_eq_getElem (by have := HC.out.2.2; omega)⟩
          obtain ⟨c1, c2⟩ := sec_at _ _ _ hx
          obtain ⟨b, off, rfl, _, k0⟩ := HP.out.2.1.at_ c1
          obtain ⟨b', off', e, _, k1⟩ := HP.out.2.1.at_ c2
          cases e
          have k1' : wr.cell? ⟨b, off + j * 2 + 1, none⟩ = some (.int .u32 (x.2 : Nat)) := k1
          obtain ⟨b1, b2⟩ := HC.out.2.1 x (List.mem_of_getElem? hx)
          have e4 : IntKind.i64.wrap (x.1 : Int) = (x.1 : Int) := IntWalk.i64_in _ (by omega)
          have e5 : IntKind.i64.wrap (x.2 : Int) = (x.2 : Int) := IntWalk.i64_in _ (by omega)
          have htk : L'.take (j + 1) = L'.take j ++ [x] := by rw [List.take_add_one, hx]; rfl
          have hch : chainS (L'.take (j + 1)) hdr = (decide (x.1 = en), x.1 + x.2) := by rw [htk, chain_one, HJ.out]; rfl
          have HCH := Lib.hid hch
          clear k1 c1 c2 hx htk hch
          by_cases hxe : x.1 = en
          · have u3 : ((x.1 : Int) != (en : Int)) = false := by rw [hxe]; simp
            have e6 : IntKind.i64.wrap ((en : Int) + (x.2 : Int)) = ((x.1 + x.2 : Nat) : Int) := by rw [IntWalk.i64_in _ (by omega)]; omega
            have HN : Hid (chainS (L'.take (j + 1)) hdr = (true, x.1 + x.2)) := by rw [HCH.out, decide_eq_true hxe]; exact Lib.hid rfl
            obtain ⟨xe, hxx⟩ : ∃ xe, x.1 + x.2 = xe := ⟨_, rfl⟩
            rw [hxx] at e6 HN
            have hxb : xe ≤ 8589934592 := by omega
            clear hxe HCH HJ hxx
            go_wp2_with (fail)
            go_roundw
            case rel => exact ⟨j + 1, xe, by go_num, by go_num, by omega, hxb, HN, by simp⟩
            case measure => simp [intOf]; omega
          · have u3 : ((x.1 : Int) != (en : Int)) = true := by simp; omega
            have hno : (chainS (riseL (secN bs tab i)) hdr).1 = false := by
              rw [← HC.out.1.1]
              cases h9 : (chainS L' hdr).1 with
              | false => rfl
              | true =>
                have h8 := chain_take L' hdr (j + 1) h9
                rw [HCH.out, decide_eq_false hxe] at h8
                cases h8
            have HNO := Lib.hid hno
            clear hxe HCH HJ hno
            go_wp2_with (fail)
            refine bodyPost_ret (results_tmp3 Tryd.results33 _ _ _) rfl ?_
            exact ⟨none, 0, 0, 0, false, rfl, HP.out.2.2.1, by rw [HNO.out]; simp, fun h => by cases h⟩
        · have u1 : decide ((j : Int) < (mx : Int)) = false := by simp; omega
          have u1n : decide (j < mx) = false := by simp; omega
          obtain rfl : j = mx := by omega
          have h1 : L'.take j = L' := by rw [← HC.out.2.2, List.take_length]
          have h2 := HJ.out
          rw [h1] at h2
          have h3 : (chainS (riseL (secN bs tab i)) hdr).1 = true := by rw [← HC.out.1.1, h2]
          have h4 : (chainS (riseL (secN bs tab i)) hdr).2 = en := by rw [← HC.out.1.2 h3, h2]
          have HF := Lib.hid (And.intro h3 h4)
          clear h1 h2 h3 h4 HJ
          go_wp2_with (fail)
          refine bodyPost_ret (results_tmp3 Tryd.results33 _ _ _) rfl ?_
          exact ⟨V, m, cV, en, decide (en ≤ n), by simp, HP.out.2.2.1, by rw [HF.out.1, HF.out.2, HP.out.2.2.2.2]; rfl, fun h => ⟨HP.out.2.2.2.1, HP.out.1, HF.out.2.symm⟩⟩
end Go.Proofs.YtjfpiidofbjdhaaDoor
