/-
  cert: the statement on usages.
-/
import Derived.Test.YtomolfdcdmncoaaCgI
import Derived.Test.YtomolfdcdmncoaaCgB
import Derived.Deep.Grids
import Derived.ChangeShapes
namespace Go.Proofs.Ytomolfdcdmncoaa
open Go.RowKit Go
set_option linter.unusedVariables false
set_option linter.unusedSimpArgs false
set_option maxRecDepth 100000

/-- WHAT A LAW's WALK IS TOLD OF A SLICE OF BOOLS THAT CAME IN. -/
structure IsBools (w : World) (A : Option Addr) (n c : Nat) (F : Nat → Bool) : Prop where
  le : n ≤ c
  max : c ≤ maxLen
  cells : ∀ i, i < n → ∃ b off, A = some ⟨b, off, none⟩ ∧ b < w.heap.size ∧ w.cell? ⟨b, off + i, none⟩ = some (.bool (F i))
section
open Go.ChangeShapes Go.WideShapes Go.ChangeAt Go.Deep
theorem open_s58 {H : Type} {enc : TypeId × Value → H} {w : World} {A : Option Addr} {n c : Nat} {d : DataW H} {p : List MemPlace} (h : DataW.Trod enc Try.prog w 0 (fun _ => true) true 58 (.slice A n c) d p) : ∃ F, IsBools w A n c F := by
  obtain ⟨fuel, hf⟩ := h
  rcases open_bools Try.underlying58 Try.underlying4 (by kernel_rfl) hf with ⟨hcs, _⟩ | ⟨a, len, cap, F, hcs, _, hl, hm, _, hcell⟩
  · simp [Value.cells] at hcs
    obtain ⟨rfl, rfl, rfl⟩ := hcs
    exact ⟨fun _ => false, Nat.le_refl _, Nat.zero_le _, fun i hi => absurd hi (by omega)⟩
  · simp [Value.cells] at hcs
    obtain ⟨rfl, rfl, rfl⟩ := hcs
    refine ⟨F, hl, hm, fun i hi => ?_⟩
    obtain ⟨b, off, spot⟩ := a
    have hsp : spot = none := by
      have h1 := World.cell?_spot (hcell 0 (by omega))
      simpa [Addr.add] using h1
    subst hsp
    have h0 := hcell i (by omega)
    have hadd : (⟨b, off, none⟩ : Addr).add i = ⟨b, off + i, none⟩ := by unfold Addr.add; split <;> simp_all
    rw [hadd] at h0
    exact ⟨b, off, rfl, World.block_lt_of_cell? w _ h0, h0⟩
end

theorem ubN_lt (b : List Bool) : ∀ j, ubN b j < 2 ^ j
  | 0 => by simp [ubN]
  | j + 1 => by
    have h := ubN_lt b j
    simp only [ubN, Nat.pow_succ]
    split <;> omega
theorem us_wr (u j : Nat) (hu : u < 2 ^ j) (hj : j < 40) : wrap64 ((u : Int) + wrap64 (2 ^ j)) = ((u + 2 ^ j : Nat) : Int) := by
  have h1 : (2 : Nat) ^ j ≤ 2 ^ 39 := Nat.pow_le_pow_right (by decide) (by omega)
  have h2 : ((2 : Int) ^ j) = ((2 ^ j : Nat) : Int) := by simp
  rw [h2]
  generalize 2 ^ j = p at *
  have h3 : wrap64 (p : Int) = (p : Int) := by unfold wrap64; omega
  rw [h3]
  unfold wrap64
  omega
theorem us_or (x : UInt8) (r : Nat) (hr : r < 8) : bits BinOp.or IntKind.u8 (x.toNat : Int) (128 / 2 ^ r) = (((x ||| UInt8.ofNat (128 / 2 ^ r)).toNat : Nat) : Int) := by
  have key : ∀ r, r < 8 → ∀ n : Nat, n < 256 → bits BinOp.or IntKind.u8 (n : Int) (128 / 2 ^ r) = (((UInt8.ofNat n ||| UInt8.ofNat (128 / 2 ^ r)).toNat : Nat) : Int) := by decide +kernel
  have h := key r hr x.toNat x.toNat_lt
  rwa [UInt8.ofNat_toNat] at h
set_option maxHeartbeats 4000000 in
theorem usages_big (k : KC) (A : Option Addr) (n c : Nat) (F : Nat → Bool) (crit : Bool) (w : World) (hk : IsKC w k) (hm : 40 < n) : Calls Try.prog 6 #[k.val, .slice A n c, .bool crit] w fun e w' => e = .returned (.bool true) ∧ Below w.heap.size w w' := by
  have q1 : decide ((40 : Int) < (n : Int)) = true := decide_eq_true (by omega)
  have HKC := Lib.hid hk
  have HCS := Lib.hid (kc_info k)
  unfold KC.val
  obtain ⟨CC, HCC⟩ : ∃ CC, Hid (k.cells = CC) := ⟨_, Lib.hid rfl⟩
  have ICC : Hid ((Try.prog.info? 28).map (·.size) = some CC.size) := by rw [← HCC.out]; exact Lib.hid (kc_info k)
  clear hk HCS
  rw [HCC.out]
  go_enter Try.func6, Try.ntmps6
  go_upto_region 1 with (fail)
  refine wp_nm fun w0 hw0 => ?_
  have HB := Lib.hid (show Below w.heap.size w w0 by rw [← hw0]; exact kp_alloc (Below.refl _ _) _)
  have HK := Lib.hid (show w0.heap[w.heap.size]? = some (.cells CC 28) by rw [← hw0]; exact has_new _ _)
  clear hw0
  go_wp2_with fail
  refine (works12_any _).mono ?_
  rintro e w' ⟨rfl, hb⟩
  have HBE := Lib.hid (kp_call HB.out hb)
  clear hb
  go_wp2
  go_ret
  exact ⟨rfl, HBE.out⟩

theorem fill_us12_63 : Instr.fill (fun i => some (i * 1, 1)) ((Array.range (3 * 1)).map ((Value.int .u8 0).cells[· % (Value.int .u8 0).cells.size]!)) [(0, .int .u8 85), (1, .int .u8 29), (2, .int .u8 15)] = some (([85, 29, 15] : List UInt8).map bv).toArray := by kernel_rfl
set_option maxHeartbeats 32000000 in
theorem usages_go (k : KC) (A : Option Addr) (n c : Nat) (F : Nat → Bool) (crit : Bool) (w : World) (hk : IsKC w k) (hF : IsBools w A n c F) (hn : n ≤ 40) : Calls Try.prog 6 #[k.val, .slice A n c, .bool crit] w fun e w' => e = .returned (.bool true) ∧ Below w.heap.size w w' := by
  have q1 : decide ((40 : Int) < (n : Int)) = false := decide_eq_false (by omega)
  have HF := Lib.hid hF.cells
  clear hF
  have HKC := Lib.hid hk
  have HCS := Lib.hid (kc_info k)
  unfold KC.val
  obtain ⟨CC, HCC⟩ : ∃ CC, Hid (k.cells = CC) := ⟨_, Lib.hid rfl⟩
  have ICC : Hid ((Try.prog.info? 28).map (·.size) = some CC.size) := by rw [← HCC.out]; exact Lib.hid (kc_info k)
  clear hk HCS
  rw [HCC.out]
  go_enter Try.func6, Try.ntmps6
  go_upto_region 1 with (fail)
  refine wp_nm fun w0 hw0 => ?_
  have HB := Lib.hid (show Below w.heap.size w w0 by rw [← hw0]; exact kp_alloc (Below.refl _ _) _)
  have HK := Lib.hid (show w0.heap[w.heap.size]? = some (.cells CC 28) by rw [← hw0]; exact has_new _ _)
  clear hw0
  go_upto_region 3 with (fail)
  clear q1
  have HW0 := Lib.hid HK.out
  obtain ⟨N, hN⟩ : ∃ N, N = 1 + (n + 7) / 8 := ⟨_, rfl⟩
  have HNN := Lib.hid hN
  have hN6 : N ≤ 6 := by omega
  have hN1 : 0 < N := by omega
  clear hN
  go_wp2_with (refine wpList_mk _ _ rfl rfl _ _ _ _ N rfl rfl (by have := HNN.out; omega) (by have := HNN.out; omega) (by omega) ?_)
  intro w1 ho hg
  obtain ⟨g, hgg⟩ : ∃ x, x = w0.heap.size := ⟨_, rfl⟩
  have HG := Lib.hid hgg
  rw [← hgg] at ho ⊢
  replace HB := Lib.hid (HB.out.grown hg HB.out.size (fun k hk => by cases hk))
  replace HK := Lib.hid ((hg.block _ (block_lt HK.out) (fun e => by cases e)).trans HK.out)
  have HGB := Lib.hid (show w.heap.size + 1 ≤ g by have := block_lt HW0.out; have := HG.out; omega)
  clear hgg hg
  have f0 : w1.frozen? ⟨g, 0, none⟩ = false := OwnB.free ho 0
  have c0 := OwnB.cellAt ho 0 0 (by rw [List.getElem?_replicate, if_pos (by omega)])
  have HO := Lib.hid ho
  clear ho
  go_upto_region 5 with (fail)
  refine wp_nm fun w2 hw2 => ?_
  have hbl0 : ((List.range n).map F).length = n := by simp
  have HOS := Lib.hid (show OwnB w2 g (some ⟨g, 0, none⟩) N N (ubS ((List.range n).map F) 0) by
    rw [← hw2]
    have e : (-((n : Int) % 8) % 8) = ((UInt8.ofNat ((8 - n % 8) % 8)).toNat : Int) := by rw [UInt8.toNat_ofNat']; omega
    rw [e]
    have h9 := OwnB.stored HO.out 0 (UInt8.ofNat ((8 - n % 8) % 8))
    have e2 : (List.replicate N (0 : UInt8)).set 0 (UInt8.ofNat ((8 - n % 8) % 8)) = ubS ((List.range n).map F) 0 := by
      rw [HNN.out, Nat.add_comm 1, List.replicate_succ, List.set_cons_zero]
      simp only [ubS, hbl0]
    rwa [e2] at h9)
  have hs : w1.grownBy w2 (some g) := by rw [← hw2]; exact grown_one w1 g 0 _
  replace HB := Lib.hid (kp_grown HB.out hs (by have := HGB.out; omega))
  replace HK := Lib.hid (has_grown HK.out hs (by have := HGB.out; omega))
  clear hs hw2 f0 c0 HO
  go_wp2
  go_loopw [8, 9] (fun v8 v9 wl => ∃ (j : Nat), j ≤ n ∧ v9 = .int .i64 (j : Nat) ∧ v8 = .int .i64 ((ubN ((List.range n).map F) j : Nat) : Int) ∧ Hid (OwnB wl g (some ⟨g, 0, none⟩) N N (ubS ((List.range n).map F) j)) ∧ Hid (Below w.heap.size w wl) ∧ Hid (wl.heap[w.heap.size]? = some (.cells CC 28))) (fun _ i _ => n - (intOf i).toNat)
  case atStart => exact ⟨0, Nat.zero_le _, rfl, rfl, HOS, HB, HK⟩
  case round =>
    obtain ⟨j, hj, rfl, rfl, HO1, HB1, HK1⟩ := hrel
    clear HB HK HOS
    by_cases hlt : j < n
    · obtain ⟨b, off, rfl, hbw, hc⟩ := HF.out j hlt
      have cj := (HB1.out.cell (p := ⟨b, off + j, none⟩) hbw).trans hc
      have q1 : (j : Int) < (n : Int) := by omega
      have hgt : ((List.range n).map F).getD j false = F j := by rw [List.getD_eq_getElem?_getD, List.getElem?_map, List.getElem?_range hlt]; rfl
      have hub : ubN ((List.range n).map F) (j + 1) = if F j then ubN ((List.range n).map F) j + 2 ^ j else ubN ((List.range n).map F) j := by simp only [ubN, hgt]
      have hus : ubS ((List.range n).map F) (j + 1) = if F j then (ubS ((List.range n).map F) j).set (1 + j / 8) ((ubS ((List.range n).map F) j).getD (1 + j / 8) 0 ||| UInt8.ofNat (128 / 2 ^ (j % 8))) else ubS ((List.range n).map F) j := by simp only [ubS, hgt]
      have hul := ubN_lt ((List.range n).map F) j
      clear hc hgt
      cases hF : F j with
      | false =>
        rw [hF] at cj hub hus
        have HU := Lib.hid hub
        have HS := Lib.hid hus
        clear hub hus hul
        go_wp2
        go_roundw
        case rel => exact ⟨j + 1, by omega, by go_num, by rw [HU.out]; rfl, by rw [HS.out]; exact HO1, HB1, HK1⟩
        case measure => simp [intOf]; omega
      | true =>
        rw [hF] at cj hub hus
        have HU := Lib.hid hub
        have HS := Lib.hid hus
        obtain ⟨q, hq⟩ : ∃ q, q = j / 8 := ⟨_, rfl⟩
        obtain ⟨r, hr⟩ : ∃ r, r = j % 8 := ⟨_, rfl⟩
        rw [← hq, ← hr] at HS
        have m1 : (j : Int) / 8 = (q : Int) := by omega
        have m2 : (j : Int) % 8 = (r : Int) := by omega
        have hr8 : r < 8 := by omega
        have hqN : 1 + q < N := by have := HNN.out; omega
        have hl := HO1.out.len
        have c1 := OwnB.cellAt HO1.out (1 + q) ((ubS ((List.range n).map F) j).getD (1 + q) 0) (by rw [List.getD_eq_getElem?_getD, List.getElem?_eq_getElem (by omega)]; rfl)
        have f1 : wr.frozen? ⟨g, 1 + q, none⟩ = false := OwnB.free HO1.out (1 + q)
        obtain ⟨x, hx⟩ : ∃ x, (ubS ((List.range n).map F) j).getD (1 + q) 0 = x := ⟨_, rfl⟩
        rw [hx] at c1 HS
        obtain ⟨u, hu⟩ : ∃ u, ubN ((List.range n).map F) j = u := ⟨_, rfl⟩
        rw [hu] at hul HU ⊢
        have i1 : (1 : Int) + (q : Int) < (N : Int) := by omega
        clear hub hus hx hu hl hq hr
        have HE1 := Lib.hid (us_wr u j hul (by omega))
        have HE2 := Lib.hid (us_or x r hr8)
        clear hul
        go_wp2
        go_roundw
        case rel =>
          rw [HE1.out, HE2.out]
          have hs : wr.grownBy (wr.setCell ⟨g, 1 + q, none⟩ (.int .u8 (((x ||| UInt8.ofNat (128 / 2 ^ r)).toNat : Nat) : Int))) (some g) := grown_one wr g (1 + q) _
          have hsz := block_lt HK1.out
          have hgb := HGB.out
          exact ⟨j + 1, by omega, by go_num, by rw [HU.out]; rfl, Lib.hid (by rw [HS.out]; exact OwnB.stored HO1.out (1 + q) (x ||| UInt8.ofNat (128 / 2 ^ r))), Lib.hid (kp_grown HB1.out hs (by omega)), Lib.hid (has_grown HK1.out hs (by omega))⟩
        case measure => simp [intOf]; omega
    · obtain rfl : j = n := by omega
      obtain ⟨nj, rfl⟩ : ∃ x, x = j := ⟨_, rfl⟩
      have HB := HB1
      have HK := HK1
      have hbl := ubB_len ((List.range nj).map F) (by rw [List.length_map, List.length_range]; exact hn)
      have hne : ubS ((List.range nj).map F) nj = ubB ((List.range nj).map F) := by unfold ubB; rw [List.length_map, List.length_range]
      have hnu : ubN ((List.range nj).map F) nj = ubN ((List.range nj).map F) ((List.range nj).map F).length := by rw [List.length_map, List.length_range]
      have HX1 := Lib.hid (ub_one ((List.range nj).map F) (by rw [List.length_map, List.length_range]; exact hn) crit)
      have HUV : Hid (ubV ((List.range nj).map F) = if nj < 1 ∨ 9 < nj ∨ F (nj - 1) = false then none else some (ubN ((List.range nj).map F) nj)) := by
        unfold Hid ubV
        rw [hnu, List.length_map, List.length_range]
        rcases Nat.eq_zero_or_pos nj with h0 | h0
        · rw [if_pos (.inl (by omega)), if_pos (.inl (by omega))]
        · have hgt : ((List.range nj).map F).getD (nj - 1) false = F (nj - 1) := by rw [List.getD_eq_getElem?_getD, List.getElem?_map, List.getElem?_range (by omega)]; rfl
          rw [hgt]
      rw [hne] at HO1
      generalize ubB ((List.range nj).map F) = UB at *
      generalize hUN : ubN ((List.range nj).map F) nj = UN at *
      generalize ubV ((List.range nj).map F) = UV at *
      have hul : UN < 2 ^ nj := by rw [← hUN]; exact ubN_lt _ _
      have hwl := wrQ_len 3 UB (by omega)
      have HF1 := Lib.hid (show ∀ x ∈ [((o15, crit, wrQ 3 UB) : Ex)], ExFit x from fun x hx => by rw [List.mem_singleton] at hx; subst hx; exact ⟨by simp only; decide, by simp only; omega⟩)
      have L1 := Lib.hid (show (exsF [((o15, crit, wrQ 3 UB) : Ex)]).length ≤ 6200 by
        have h1 := exsF_one (o15, crit, wrQ 3 UB)
        have h2 := exB_len (o15, crit, wrQ 3 UB) (by simp only; decide) (by simp only; omega)
        have h3 : o15.length = 3 := rfl
        simp only at h2
        omega)
      clear HB1 HK1 hne hnu hUN
      go_upto_region 12 with (fail)
      refine wp_region_monoS (by kernel_rfl) (by kernel_rfl) [62, 63, 64, 65, 66, 67, 68, 69, 70, 61, 71, 72, 10] (by rfl) (by rfl) (by decide) (by rfl) (fun j => ([MR.eq (.agg CC), MR.lit (wr.heap.size) ([85, 29, 15]), MR.eq (.bool crit), MR.eq (.slice (some ⟨g, 0, none⟩) N N), MR.own (w.heap.size) (wrQ 3 UB), MR.own (w.heap.size) (exB (o15, crit, wrQ 3 UB)), MR.rows [exB (o15, crit, wrQ 3 UB)], MR.own (w.heap.size) (xC k [(o15, crit, wrQ 3 UB)]), MR.par (w.heap.size) (xC k [(o15, crit, wrQ 3 UB)]), MR.par (w.heap.size) (xC k [(o15, crit, wrQ 3 UB)]), MR.par0 (w.heap.size) (xC k [(o15, crit, wrQ 3 UB)]), MR.eq (.int .i64 (erQ (xC k [(o15, crit, wrQ 3 UB)]) : Int)), MR.fresh0 (wr.heap.size)] : List MR).getD j MR.any) [] [[], [], [], [], [3], [1, 2, 3, 4], [1, 2, 3, 4, 5], [0, 1, 2, 3, 4, 5, 6], [0, 1, 2, 3, 4, 5, 6, 7], [0, 1, 2, 3, 4, 5, 6, 7, 8], [0, 1, 2, 3, 4, 5, 6, 7, 8, 9], [0, 1, 2, 3, 4, 5, 6, 7, 8, 9], [], [0, 1, 2, 3, 4, 5, 6, 7, 8, 9, 10, 12], [0, 1, 2, 3, 4, 5, 6, 7, 8, 9, 10, 11, 12, 13]] (by kernel_rfl) (by kernel_rfl) 11 (by decide) (by kernel_rfl) (by kernel_rfl) _ (by rfl) _ 10 71 (by rfl) (by rfl) (by rfl) (by decide) (by decide) _ (by rfl) (by rfl) ?_ (by rfl) ?_ ?_
      · intro ρ W E
        obtain ⟨D61, e61, P61⟩ : (MR.par (w.heap.size) (xC k [(o15, crit, wrQ 3 UB)])).p (ρ (.tmp 61)) W := E.dep 9 (by kernel_rfl)
        exact ⟨_, pure_extract rfl e61 (fun _ => by kernel_rfl), rfl⟩
      · intro i hi ρ W E
        simp only [List.length_cons, List.length_nil] at hi
        have hbW : w.heap.size ≤ W.heap.size := Nat.le_trans HB.out.size E.up.size
        rcases (show i = 0 ∨ i = 1 ∨ i = 2 ∨ i = 3 ∨ i = 4 ∨ i = 5 ∨ i = 6 ∨ i = 7 ∨ i = 8 ∨ i = 9 ∨ i = 10 ∨ i = 11 ∨ i = 12 by omega) with rfl | rfl | rfl | rfl | rfl | rfl | rfl | rfl | rfl | rfl | rfl | rfl | rfl
        · -- 0: load 28 t3
          refine mono_at (by rfl) rfl ?_
          have e3 : ρ (.tmp 3) = .pointer (some ⟨w.heap.size, 0, none⟩) := E.old 3 rfl
          exact mo_loadr rfl e3 (has_below HK.out E.up) Try.underlying28 rfl ICC.out ⟨Below.refl _ _, rfl⟩
        · -- 1: buildSlice 22 3 #[(0, const (85:u8)), (1, const (29:u8)), (2
          refine mono_at (by rfl) rfl ?_
          exact mo_bytes [85, 29, 15] 3 rfl (vs := [(0, .int .u8 85), (1, .int .u8 29), (2, .int .u8 15)]) (by simp only [List.map_toArray, List.map_cons, List.map_nil, E.cst]) fill_us12_63 rfl (by omega) (by omega) E.up.size
        · -- 2: move t2
          refine mono_at (by rfl) rfl ?_
          have e2 : ρ (.tmp 2) = .bool crit := E.old 2 rfl
          exact mo_move rfl ⟨Below.refl _ _, e2⟩
        · -- 3: move t7
          refine mono_at (by rfl) rfl ?_
          have e7 : ρ (.tmp 7) = .slice (some ⟨g, 0, none⟩) N N := E.old 7 rfl
          exact mo_move rfl ⟨Below.refl _ _, e7⟩
        · -- 4: call { value (Operand.func 26), args := #[const (3:u8), t65]
          refine mono_at (by rfl) rfl ?_
          have e65 : ρ (.tmp 65) = .slice (some ⟨g, 0, none⟩) N N := E.dep 3 (by kernel_rfl)
          refine mo_call rfl (E.fn _) (fun _ _ => by kernel_rfl) (args := #[.int .u8 3, .slice (some ⟨g, 0, none⟩) N N]) (by simp only [List.map_toArray, List.map_cons, List.map_nil, List.length_cons, List.length_nil, Nat.reduceAdd, E.cst, e65]) ?_
          exact writeM 3 (HO1.out.rb.below E.up) (by omega) hbW
        · -- 5: call { value (Operand.func 25), args := #[t63, t64, t66], ar
          refine mono_at (by rfl) rfl ?_
          obtain ⟨g63, q63, e63, z63, o63⟩ : (MR.lit (wr.heap.size) ([85, 29, 15])).p (ρ (.tmp 63)) W := E.dep 1 (by kernel_rfl)
          have e64 : ρ (.tmp 64) = .bool crit := E.dep 2 (by kernel_rfl)
          obtain ⟨A66, n66, c66, e66, o66⟩ : (MR.own (w.heap.size) (wrQ 3 UB)).p (ρ (.tmp 66)) W := E.dep 4 (by kernel_rfl)
          refine mo_call rfl (E.fn _) (fun _ _ => by kernel_rfl) (args := #[.slice (some ⟨g63, 0, none⟩) (List.length ([85, 29, 15] : List UInt8)) (List.length ([85, 29, 15] : List UInt8)), .bool crit, .slice A66 n66 c66]) (by simp only [List.map_toArray, List.map_cons, List.map_nil, List.length_cons, List.length_nil, Nat.reduceAdd, E.cst, e63, e64, e66]) ?_
          exact extM crit (lit_rb o63) o66.rb (by decide) (by have h9 := o66.len; omega) hbW
        · -- 6: buildSlice 56 1 #[(0, t67)]
          refine mono_at (by rfl) rfl ?_
          obtain ⟨A67, n67, c67, e67, o67⟩ : (MR.own (w.heap.size) (exB (o15, crit, wrQ 3 UB))).p (ρ (.tmp 67)) W := E.dep 5 (by kernel_rfl)
          exact mo_rows [(A67, n67, c67, exB (o15, crit, wrQ 3 UB))] 1 rfl (vs := [(0, .slice A67 n67 c67)]) (by simp only [List.map_toArray, List.map_cons, List.map_nil, E.cst, e67]) (by kernel_rfl) rfl (by omega) (by omega) (all1R o67.rb all0R)
        · -- 7: call { value (Operand.func 24), args := #[t62, t68], argType
          refine mono_at (by rfl) rfl ?_
          have e62 : ρ (.tmp 62) = .agg CC := E.dep 0 (by kernel_rfl)
          obtain ⟨A68, l68, e68, r68, m68⟩ : (MR.rows [exB (o15, crit, wrQ 3 UB)]).p (ρ (.tmp 68)) W := E.dep 6 (by kernel_rfl)
          refine mo_call rfl (E.fn _) (fun _ _ => by kernel_rfl) (args := #[.agg CC, .slice A68 1 1]) (by simp only [List.map_toArray, List.map_cons, List.map_nil, List.length_cons, List.length_nil, Nat.reduceAdd, E.cst, e62, e68]) ?_
          rw [← HCC.out]
          exact withM HKC.out (HB.out.trans (E.up.mono HB.out.size)) [(o15, crit, wrQ 3 UB)] r68 m68 rfl (by omega) (Nat.le_trans L1.out (by omega)) hbW
        · -- 8: call { value (Operand.func 15), args := #[t69], argTypes := 
          refine mono_at (by rfl) rfl ?_
          obtain ⟨A69, n69, c69, e69, o69⟩ : (MR.own (w.heap.size) (xC k [(o15, crit, wrQ 3 UB)])).p (ρ (.tmp 69)) W := E.dep 7 (by kernel_rfl)
          refine mo_call rfl (E.fn _) (fun _ _ => by kernel_rfl) (args := #[.slice A69 n69 c69]) (by simp only [List.map_toArray, List.map_cons, List.map_nil, List.length_cons, List.length_nil, Nat.reduceAdd, E.cst, e69]) ?_
          exact parM o69.rb o69.cap.1 o69.cap.2 (Nat.le_trans (xC_len k [(o15, crit, wrQ 3 UB)] L1.out) (by omega)) hbW
        · -- 9: move t70
          refine mono_at (by rfl) rfl ?_
          obtain ⟨D70, e70, P70⟩ : (MR.par (w.heap.size) (xC k [(o15, crit, wrQ 3 UB)])).p (ρ (.tmp 70)) W := E.dep 8 (by kernel_rfl)
          exact mo_move rfl ⟨Below.refl _ _, E.dep 8 (by kernel_rfl)⟩
        · -- 10: extract t61 0
          refine mono_at (by rfl) rfl ?_
          obtain ⟨D61, e61, P61⟩ : (MR.par (w.heap.size) (xC k [(o15, crit, wrQ 3 UB)])).p (ρ (.tmp 61)) W := E.dep 9 (by kernel_rfl)
          exact mo_extract rfl e61 (by kernel_rfl) ⟨Below.refl _ _, _, rfl, P61⟩
        · -- 11: extract t61 1
          refine mono_at (by rfl) rfl ?_
          obtain ⟨D61, e61, P61⟩ : (MR.par (w.heap.size) (xC k [(o15, crit, wrQ 3 UB)])).p (ρ (.tmp 61)) W := E.dep 9 (by kernel_rfl)
          exact mo_extract rfl e61 (by kernel_rfl) ⟨Below.refl _ _, rfl⟩
        · -- 12: alloc 33
          refine mono_at (by rfl) rfl ?_
          exact mo_alloc rfl run_alloc0 ⟨kp_alloc (Below.refl _ _) _, _, rfl, E.up.size, has_new _ _⟩
      · intro u W hbU hR
        obtain ⟨Du71, eu71, Pu71⟩ : (MR.par0 (w.heap.size) (xC k [(o15, crit, wrQ 3 UB)])).p (u 10) W := hR 10 (by decide)
        have hu72 : u 11 = .int .i64 (erQ (xC k [(o15, crit, wrQ 3 UB)]) : Int) := hR 11 (by decide)
        obtain ⟨gu10, eu10, Lu10, Zu10⟩ : (MR.fresh0 (wr.heap.size)).p (u 12) W := hR 12 (by decide)
        clear hR
        simp only [lay, Nat.reduceAdd, List.setIfInBounds_toArray, List.set_cons_zero, List.set_cons_succ]
        refine ⟨_, (by show (Instr.storeAt _ (u 12) (u 10)).run _ W = _; rw [eu10, eu71]; exact run_storeAt_row9 W gu10 _ _ _ Du71 Zu10 (info24 Pu71.size.1) (by rw [Pu71.size.1]; rfl) Pu71.size.2), wpOp_val (v := u 11) (by rfl) rfl (by rfl) ?_⟩
        dsimp only [Act.put]
        simp only [List.setIfInBounds_toArray, List.set_cons_zero, List.set_cons_succ, eu71, hu72, eu10]
        clear eu71 hu72 eu10
        have HZ := Lib.hid Zu10
        have hgL := Lu10
        have HPq := Lib.hid Pu71
        have IDq := Lib.hid (info24 Pu71.size.1)
        clear Zu10 Pu71
        go_upto_region 13 with (fail)
        refine wp_nm fun w5 hww5 => ?_
        have HG : Hid (W.grownBy w5 (some gu10)) := by rw [← hww5]; exact Lib.hid (grown_row ..)
        have HD1 := Lib.hid (show w5.heap[gu10]? = some (.cells Du71 33) by rw [← hww5]; exact setRow_heap _ _ _ _ _ _ HZ.out)
        have hbn : Below wr.heap.size wr w5 := hbU.grown HG.out hbU.size (fun k hk => by injection hk with hk; omega)
        have HP1 := Lib.hid (HPq.out.keptC HG.out HZ.out)
        replace HB := Lib.hid (kp_call HB.out hbn)
        replace HK := Lib.hid (has_below HK.out hbn)
        obtain ⟨G1, rfl⟩ : ∃ x, x = gu10 := ⟨_, rfl⟩
        obtain ⟨D1, rfl⟩ : ∃ x, x = Du71 := ⟨_, rfl⟩
        have ID1 := IDq
        have G1L := Lib.hid hgL
        clear hww5 HG HZ HPq hbU hgL Lu10 IDq hbn
        have HV : Hid (∀ c, exsV [(o15, crit, wrQ 3 UB)] = some c → D1[22]? = some (.int .i64 c.usage)) := Lib.hid (fun c hc => by
          obtain ⟨_, _, _, _, _, _, _, hD, _⟩ := HP1.out.ceX HF1.out L1.out c hc
          rw [hD]
          rfl)
        clear HP1 HO1 HK ID1
        obtain h0 | h0 : nj = 0 ∨ 0 < nj := by omega
        · subst h0
          have HC := Lib.hid (xC_no (k := k) HF1.out L1.out (by rw [HX1.out, HUV.out, if_pos (.inl (by omega))]; rfl))
          rw [HC.out]
          clear HC HX1 HF1 L1 HUV HV
          go_wp2_with fail
          refine (works12_any _).mono ?_
          rintro e w' ⟨rfl, hb⟩
          have HBE := Lib.hid (kp_call HB.out hb)
          clear hb
          go_wp2
          go_ret
          exact ⟨rfl, HBE.out⟩
        · have q1 : decide ((nj : Int) < 1) = false := decide_eq_false (by omega)
          have q2 : decide (nj < 1) = false := decide_eq_false (by omega)
          obtain h9 | h9 : 9 < nj ∨ nj ≤ 9 := by omega
          · have q3 : decide ((9 : Int) < (nj : Int)) = true := decide_eq_true (by omega)
            have q4 : decide (9 < nj) = true := decide_eq_true h9
            have HC := Lib.hid (xC_no (k := k) HF1.out L1.out (by rw [HX1.out, HUV.out, if_pos (.inr (.inl h9))]; rfl))
            rw [HC.out]
            clear HC HX1 HF1 L1 HUV HV
            go_wp2_with fail
            refine (works12_any _).mono ?_
            rintro e w' ⟨rfl, hb⟩
            have HBE := Lib.hid (kp_call HB.out hb)
            clear hb
            go_wp2
            go_ret
            exact ⟨rfl, HBE.out⟩
          · have q3 : decide ((9 : Int) < (nj : Int)) = false := decide_eq_false (by omega)
            have q4 : decide (9 < nj) = false := decide_eq_false (by omega)
            obtain ⟨b, off, rfl, hbw, hc⟩ := HF.out (nj - 1) (by omega)
            obtain ⟨m, rfl⟩ : ∃ m, nj = m + 1 := ⟨nj - 1, by omega⟩
            have cl := (HB.out.cell (p := ⟨b, off + (m + 1 - 1), none⟩) hbw).trans hc
            rw [Nat.add_sub_cancel] at cl
            have i1 : (0 : Int) ≤ (m : Int) := by omega
            have i2 : (m : Int) < ((m + 1 : Nat) : Int) := by omega
            have i3 : m < m + 1 := by omega
            clear hc
            cases hFm : F m with
            | false =>
              rw [hFm] at cl
              have HC := Lib.hid (xC_no (k := k) HF1.out L1.out (by rw [HX1.out, HUV.out, if_pos (.inr (.inr (by rw [Nat.add_sub_cancel]; exact hFm)))]; rfl))
              rw [HC.out]
              clear HC HX1 HF1 L1 HUV HV
              go_wp2_with fail
              refine (works12_any _).mono ?_
              rintro e w' ⟨rfl, hb⟩
              have HBE := Lib.hid (kp_call HB.out hb)
              clear hb
              go_wp2
              go_ret
              exact ⟨rfl, HBE.out⟩
            | true =>
              rw [hFm] at cl
              have hv : exsV [(o15, crit, wrQ 3 UB)] = some { xt0 with usage := (UN : Int) } := by
                rw [HX1.out, HUV.out, if_neg (by rw [Nat.add_sub_cancel, hFm]; rintro (h | h | h); omega; omega; cases h)]
                rfl
              have HC := Lib.hid (xC_er (k := k) HF1.out L1.out hv)
              have c22 := (Lib.cell_of_heap HD1.out 22).trans (HV.out _ hv)
              simp only at c22
              rw [HC.out]
              clear HC HX1 HF1 L1 HUV HV hv hFm hul
              go_wp2_with fail
              refine (works12_any _).mono ?_
              rintro e w' ⟨rfl, hb⟩
              have HBE := Lib.hid (kp_call HB.out hb)
              clear hb
              go_wp2
              go_ret
              exact ⟨rfl, HBE.out⟩

theorem usages_row (k : KC) (A : Option Addr) (n c : Nat) (F : Nat → Bool) (crit : Bool) (w : World) (hk : IsKC w k) (hF : IsBools w A n c F) : Calls Try.prog 6 #[k.val, .slice A n c, .bool crit] w fun e w' => e = .returned (.bool true) ∧ Below w.heap.size w w' := by
  by_cases hm : 40 < n
  · exact usages_big k A n c F crit w hk hm
  · exact usages_go k A n c F crit w hk hF (by omega)
end Go.Proofs.Ytomolfdcdmncoaa
