/-
  sha: the document's Sum.
-/
import Derived.Test.YtcedojmhgmgcgaaGreatDoorMs3
import Derived.Test.YtcedojmhgmgcgaaGreatDoorMs5
namespace Go.Proofs.YtcedojmhgmgcgaaGreatDoor
open Go.RowKit Go
set_option linter.unusedVariables false
set_option linter.unusedSimpArgs false
set_option maxRecDepth 100000
theorem h0_row : (PR64.take 8).map (fun p => rootQ p 2) = H0v.list := by
  rw [← H0_eq, ← sq_roots]
  refine List.map_congr_left fun p hp => ?_
  have := pr_bd p (List.mem_of_mem_take hp)
  exact rootQ_eq p 2 (by omega) (by decide)
theorem k0_row : (PR64.take 64).map (fun p => rootQ p 3) = K0 := by
  rw [← cb_roots]
  refine List.map_congr_left fun p hp => ?_
  have := pr_bd p (List.mem_of_mem_take hp)
  exact rootQ_eq p 3 (by omega) (by decide)
theorem run_shrD (x q : Nat) (hq : q ≤ 24) (w : World) : (Op.shift BinOp.shr IntKind.u32 (x : Int) IntKind.u64 (q : Int)).run Tryz.prog w = .ok (.int .u32 ((x : Int) / 2 ^ q)) w := by
  unfold Op.shift
  rw [if_neg (by omega)]
  have hm : min (q : Int).toNat IntKind.u32.bits = q := by
    show min (q : Int).toNat 32 = q
    omega
  simp only [hm]
  rw [Int.fdiv_eq_ediv_of_nonneg _ (Int.pow_nonneg (by decide))]
  rfl
theorem pad_mod (n : Nat) : (n + (zerosQ n + 9)) % 64 = 0 := by unfold zerosQ; omega
theorem roots8 (w : World) : Calls Tryz.prog 47 #[.int .i64 8, .int .i64 2] w fun e w' => ∃ g, e = .returned (.slice (some ⟨g, 0, none⟩) 8 8) ∧ OwnU w' w.heap.size (some ⟨g, 0, none⟩) 8 8 H0v.list ∧ Below w.heap.size w w' := by
  have h := droots_any 8 2 (by decide) (by decide) (by decide) (by decide) w
  rw [h0_row] at h
  exact h
theorem roots64 (w : World) : Calls Tryz.prog 47 #[.int .i64 64, .int .i64 3] w fun e w' => ∃ g, e = .returned (.slice (some ⟨g, 0, none⟩) 64 64) ∧ OwnU w' w.heap.size (some ⟨g, 0, none⟩) 64 64 K0 ∧ Below w.heap.size w w' := by
  have h := droots_any 64 3 (by decide) (by decide) (by decide) (by decide) w
  rw [k0_row] at h
  exact h
set_option maxHeartbeats 8000000 in
theorem dsum_any (A : Option Addr) (n c : Nat) (bs : List UInt8) (w : World) (h : RB w A n bs) (hn : n ≤ 1000000) :
    Calls Tryz.prog 21 #[.slice A n c] w fun e w' => e = .returned (.agg ((sumQ (bs.map UInt8.toNat) n).map v8).toArray) ∧ Below w.heap.size w w' := by
  obtain ⟨B, hB⟩ : ∃ B, w.heap.size = B := ⟨_, rfl⟩
  have HLB := Lib.hid h.1
  have HR := Lib.hid h
  clear h
  go_enter Tryz.func21, Tryz.ntmps21
  go_wp2_with fail
  refine calls_nm fun w0 hw0 => ?_
  have hb0 : Below w.heap.size w w0 := by rw [← hw0]; exact kp_alloc (Below.refl _ _) _
  have k0 : ArrIs w0 B 25 (part8 32 []) := by rw [← hw0]; exact has_new' _ _ _ hB.symm
  have H0' : Hid (Below w.heap.size w w0 ∧ ArrIs w0 B 25 (part8 32 [])) := ⟨hb0, k0⟩
  clear hw0 hb0 k0
  with_reducible refine (roots8 w0).mono ?_
  rintro e w1 ⟨gh, rfl, oh, hb1⟩
  have H1 : Hid (Below w.heap.size w w1 ∧ ArrIs w1 B 25 (part8 32 []) ∧ ReadR w1 (some ⟨gh, 0, none⟩) (H0v.list.map v32)) := ⟨kp_call H0'.out.1 hb1, H0'.out.2.below hb1, OwnR.reads oh⟩
  clear oh hb1 H0'
  go_wp2_with fail
  with_reducible refine (roots64 w1).mono ?_
  rintro e w2 ⟨gk, rfl, ok, hb2⟩
  have H2 : Hid (Below w.heap.size w w2 ∧ ArrIs w2 B 25 (part8 32 []) ∧ ReadR w2 (some ⟨gh, 0, none⟩) (H0v.list.map v32) ∧ ReadR w2 (some ⟨gk, 0, none⟩) (K0.map v32)) := ⟨kp_call H1.out.1 hb2, H1.out.2.1.below hb2, H1.out.2.2.below hb2 (Nat.le_refl _), OwnR.reads ok⟩
  clear ok hb2 H1
  go_wp2_with fail
  with_reducible refine (padded_any A n c bs w2 (HR.out.below H2.out.1) hn).mono ?_
  rintro e w3 ⟨A3, c3, rfl, o3, hb3⟩
  obtain ⟨N, hN⟩ : ∃ N, n + (zerosQ n + 9) = N := ⟨_, rfl⟩
  rw [hN] at o3 ⊢
  have hN64 : N % 64 = 0 := by rw [← hN]; exact pad_mod n
  have hNb : N ≤ 1000100 := by rw [← hN]; unfold zerosQ; omega
  have hN9 : 9 ≤ N := by omega
  obtain ⟨ga, rfl, _, _⟩ := o3.shape (by have := o3.cap.1; omega)
  obtain ⟨pn, hpn⟩ : ∃ pn, bs.map UInt8.toNat ++ padShQ n = pn := ⟨_, rfl⟩
  have hpl : (bs ++ padB n).map UInt8.toNat = pn := by rw [List.map_append, padB_nat, hpn]
  have hc3 := o3.cap
  unfold maxLen at hc3
  obtain ⟨hc31, hc32⟩ := hc3
  obtain ⟨G, hG⟩ : ∃ G, w3.heap.size = G := ⟨_, rfl⟩
  have HPL : Hid (pn.length = N) := by unfold Hid; rw [← hpl, List.length_map, o3.len]
  have H3 : Hid (Below w.heap.size w w3 ∧ ArrIs w3 B 25 (part8 32 []) ∧ ReadR w3 (some ⟨gh, 0, none⟩) ((hashN H0v pn 0).list.map v32) ∧ ReadR w3 (some ⟨gk, 0, none⟩) (K0.map v32) ∧ RB w3 (some ⟨ga, 0, none⟩) N (bs ++ padB n) ∧ B < G) :=
    ⟨kp_call H2.out.1 hb3, H2.out.2.1.below hb3, H2.out.2.2.1.below hb3 (Nat.le_refl _), H2.out.2.2.2.below hb3 (Nat.le_refl _), o3.rb, by rw [← hG]; exact (H2.out.2.1.below hb3).lt⟩
  have HB : Hid (∀ W i, Below G w3 W → i + 64 ≤ N → RB W (some ⟨ga, i, none⟩) 64 (((bs ++ padB n).drop i).take 64)) := by
    intro W i hW hi
    have hr := o3.rb
    refine ⟨by rw [List.length_take, List.length_drop, o3.len]; omega, ?_⟩
    have h1 := ((hr.2.drop_ i).take_ 64).below' (w' := W) (hW.mono (by rw [← hG]; exact Nat.le_refl _)) (by rw [hG]; exact Nat.le_refl _)
    rw [Option.map_some, Addr.add_mid, Nat.zero_add] at h1
    exact h1.more (by have := hW.size; omega)
  have HPN := Lib.hid hpl
  have HPQ := Lib.hid hpn
  clear o3 hb3 H2 hN hpl hpn
  go_wp2_with fail
  go_loopw [3, 6] (fun vh vi wl => ∃ (i m : Nat) (H : Option Addr) (ch : Nat), vh = .slice H 8 ch ∧ vi = .int .i64 (i : Int) ∧ i ≤ N ∧ i = 64 * m ∧ Hid (ReadR wl H ((hashN H0v pn m).list.map v32) ∧ Below G w3 wl)) (fun _ vi _ => N - (intOf vi).toNat)
  case atStart => exact ⟨0, 0, some ⟨gh, 0, none⟩, 8, rfl, rfl, Nat.zero_le _, rfl, H3.out.2.2.1, by rw [← hG]; exact Below.refl _ _⟩
  case round =>
    obtain ⟨i, m, H, ch, rfl, rfl, hi, him0, HK⟩ := hrel
    have HIM := Lib.hid him0
    clear him0
    by_cases hlt : i < N
    · have i1 : (i : Int) < (N : Int) := by omega
      have hi64 : i + 64 ≤ N := by have := HIM.out; omega
      have e1 : IntKind.i64.wrap ((i : Int) + 64) = (i : Int) + 64 := IntWalk.i64_in _ (by omega)
      have i2 : (i : Int) + 64 ≤ (c3 : Int) := by omega
      have i3 : (0 : Int) ≤ (i : Int) := by omega
      have hs : G ≤ wr.heap.size := by have := HK.out.2.size; omega
      have DB := Lib.hid (dblock_any H (some ⟨gk, 0, none⟩) (some ⟨ga, i, none⟩) ch 64 64 (c3 - i) (hashN H0v pn m) K0 (((bs ++ padB n).drop i).take 64) wr HK.out.1 (hashN_ok _ _ H0v_ok m) (H3.out.2.2.2.1.below HK.out.2 (by rw [hG]; exact Nat.le_refl _)) K0_ok.1 K0_ok.2 (HB.out wr i HK.out.2 hi64) rfl)
      have HQ : Hid ((blockW (hashN H0v pn m) K0 ((((bs ++ padB n).drop i).take 64).map UInt8.toNat)).list = (hashN H0v pn (m + 1)).list) := by
        unfold Hid
        rw [hashN, ← HIM.out, ← HPN.out, List.map_take, List.map_drop]
      go_wp2_with fail
      with_reducible refine DB.out.mono ?_
      rintro e w5 ⟨g5, rfl, o5, hb5⟩
      have HN : Hid (ReadR w5 (some ⟨g5, 0, none⟩) ((hashN H0v pn (m + 1)).list.map v32) ∧ Below G w3 w5) := ⟨by rw [← HQ.out]; exact OwnR.reads o5, HK.out.2.trans (hb5.mono hs)⟩
      clear o5 hb5 DB HK HQ
      go_wp2
      go_roundw
      case rel => exact ⟨i + 64, m + 1, some ⟨g5, 0, none⟩, 8, rfl, by go_num, by omega, by have := HIM.out; omega, HN.out⟩
      case measure => simp [intOf]; omega
    · obtain rfl : i = N := by omega
      have i1 : ¬ (i : Int) < (i : Int) := by omega
      obtain ⟨u, hu⟩ : ∃ u, hashN H0v pn m = u := ⟨_, rfl⟩
      have HS : Hid (sumQ (bs.map UInt8.toNat) n = dig u 32) := by
        unfold Hid sumQ
        rw [HPQ.out, HPL.out, ← hu, HIM.out, Nat.mul_div_cancel_left m (by decide)]
      obtain ⟨hrd, hbw⟩ := HK.out
      rw [hu] at hrd
      obtain ⟨bh, ohh, rfl, hbl, hcl⟩ := hrd (by intro e; cases e)
      obtain ⟨B4, hB4⟩ : ∃ B4, wr.heap.size = B4 := ⟨_, rfl⟩
      have hcell : ∀ W, Below B4 wr W → ∀ j, j < 8 → W.cell? ⟨bh, ohh + j, none⟩ = some (.int .u32 ((u.list.getD j 0 : Nat) : Int)) := fun W hW j hj => by
        rw [hW.cell (p := ⟨bh, ohh + j, none⟩) (by rw [← hB4]; exact hbl)]
        exact hcl j _ (by rw [List.getElem?_map, List.getElem?_eq_getElem hj, List.getD_eq_getElem?_getD, List.getElem?_eq_getElem hj]; rfl)
      have HC := Lib.hid hcell
      have H5 : Hid (Below w.heap.size w (wr.alloc (.cells (part8 32 []).toArray 25)) ∧ ArrIs (wr.alloc (.cells (part8 32 []).toArray 25)) B 25 (part8 32 []) ∧ ArrIs (wr.alloc (.cells (part8 32 []).toArray 25)) B4 25 (part8 32 (dig u 0)) ∧ Below B4 wr (wr.alloc (.cells (part8 32 []).toArray 25))) := by
        obtain ⟨q1, q2, _, _, _, q6⟩ := H3.out
        refine ⟨kp_alloc (q1.trans (hbw.mono (by have := q1.size; omega))) _, has_alloc (q2.below (by rw [hG]; exact hbw)) _, has_new' _ _ _ hB4.symm, by rw [← hB4]; exact kp_alloc (Below.refl _ _) _⟩
      have hBB : B < B4 := by have := H3.out.2.2.2.2.2; have := hbw.size; omega
      clear hrd hbw hu HK hcl hcell hbl H3 HB HIM
      generalize hw8 : wr = w8 at *
      clear hw8
      go_wp2_with fail
      go_loopw [8] (fun vi wl => ∃ i : Nat, vi = .int .i64 (i : Int) ∧ i ≤ 32 ∧ Hid (Below w.heap.size w wl ∧ ArrIs wl B 25 (part8 32 []) ∧ ArrIs wl B4 25 (part8 32 (dig u i)) ∧ Below B4 w8 wl)) (fun vi _ => 32 - (intOf vi).toNat)
      case atStart => exact ⟨0, rfl, Nat.zero_le _, H5.out⟩
      case round =>
        obtain ⟨i2, rfl, hi2, HJ⟩ := hrel
        clear H5
        by_cases hi32 : i2 < 32
        · obtain ⟨q1, q2, q3, q4⟩ := HJ.out
          obtain ⟨d, hd⟩ : ∃ d, i2 / 4 = d := ⟨_, rfl⟩
          obtain ⟨r, hr⟩ : ∃ r, i2 % 4 = r := ⟨_, rfl⟩
          obtain ⟨q, hq⟩ : ∃ q, 24 - 8 * r = q := ⟨_, rfl⟩
          obtain ⟨x, hx⟩ : ∃ x, u.list.getD d 0 = x := ⟨_, rfl⟩
          have c1 := HC.out wr q4 d (by omega)
          rw [hx] at c1
          have hdl : (dig u i2).length = i2 := dig_len u i2
          obtain ⟨b0, hb0⟩ : ∃ b0, (part8 32 (dig u i2))[i2]? = some b0 := ⟨_, List.getElem?_eq_getElem (by rw [part8_len 32 _ (by omega)]; exact hi32)⟩
          have c0 := q3.cell hb0
          have f0 := q3.free i2
          have hsh : ∀ W, (Op.shift BinOp.shr IntKind.u32 (x : Int) IntKind.u64 (q : Int)).run Tryz.prog W = .ok (.int .u32 ((x : Int) / 2 ^ q)) W := fun W => run_shrD x q (by omega) W
          have hnb : IntKind.u8.wrap ((x : Int) / 2 ^ q) = ((digB u i2 : Nat) : Int) := by
            unfold digB
            rw [hd, hr, hx, ← hq]
            exact dig_num x r
          have HN : Hid (Below w.heap.size w (wr.setCell ⟨B4, i2, none⟩ (v8 (digB u i2))) ∧ ArrIs (wr.setCell ⟨B4, i2, none⟩ (v8 (digB u i2))) B 25 (part8 32 []) ∧ ArrIs (wr.setCell ⟨B4, i2, none⟩ (v8 (digB u i2))) B4 25 (part8 32 (dig u (i2 + 1))) ∧ Below B4 w8 (wr.setCell ⟨B4, i2, none⟩ (v8 (digB u i2)))) := by
            refine ⟨kp_set q1 (by omega), q2.far (by omega), ?_, q4.setCell (Nat.le_refl _) _⟩
            have q5 := q3.set i2 (v8 (digB u i2))
            rw [dig_next, part8_next 32 _ _ (by rw [hdl]; exact hi32), hdl]
            exact q5
          have e1 : (i2 : Int) / 4 = (d : Int) := by omega
          have e2 : (i2 : Int) % 4 = (r : Int) := by omega
          have e1' : (i2 : Int).tdiv 4 = (d : Int) := by rw [Int.tdiv_eq_ediv_of_nonneg (by omega)]; exact e1
          have e2' : (i2 : Int).tmod 4 = (r : Int) := by rw [Int.tmod_eq_emod_of_nonneg (by omega)]; exact e2
          have e3 : IntKind.i64.wrap (8 * (r : Int)) = 8 * (r : Int) := IntWalk.i64_in _ (by omega)
          have e4 : IntKind.i64.wrap (24 - 8 * (r : Int)) = (q : Int) := by rw [IntWalk.i64_in _ (by omega)]; omega
          have e4' : 24 - 8 * (r : Int) = (q : Int) := by omega
          have e5 : IntKind.u64.wrap (q : Int) = (q : Int) := by rw [IntKind.wrap_u64]; omega
          have e5' : IntKind.i64.wrap (q : Int) = (q : Int) := IntWalk.i64_in _ (by omega)
          have e6 : IntKind.i64.wrap ((i2 : Int) + 1) = (i2 : Int) + 1 := IntWalk.i64_in _ (by omega)
          have j1 : (i2 : Int) < 32 := by omega
          have j2 : (d : Int) < 8 := by omega
          clear q1 q2 q3 q4 hb0 HJ hdl hd hr hq hx
          go_wp2
          go_roundw
          case rel => exact ⟨i2 + 1, by go_num, by omega, HN.out⟩
          case measure => simp [intOf]; omega
        · obtain rfl : i2 = 32 := by omega
          have j1 : ¬ ((32 : Nat) : Int) < 32 := by omega
          obtain ⟨q1, q2, q3, q4⟩ := HJ.out
          rw [part8_full 32 _ (dig_len u _)] at q3
          obtain ⟨ds, hds⟩ : ∃ ds, ((dig u 32).map v8).toArray = ds := ⟨_, rfl⟩
          have hone : ds.all (·.oneCell') = true := by rw [← hds]; exact all8 _
          have hsz : ds.size = 32 := by rw [← hds]; simp [dig_len]
          have hif : (Tryz.prog.info? 25).map (·.size) = some ds.size := by rw [hsz]; exact size_32
          have A1 : Hid (wr.heap[B4]? = some (.cells ds 25 (0, 0))) := by rw [← hds]; exact q3
          have A0 : Hid (wr.heap[B]? = some (.cells (part8 32 []).toArray 25 (0, 0))) := q2
          have AR : Hid ((wr.setRow B ds).heap[B]? = some (.cells ds 25 (0, 0))) := setRow_heap wr _ _ _ _ _ q2
          have HBW := Lib.hid (below_setRow q1 (show w.heap.size ≤ B by omega) ds)
          have HDS : Hid (ds = ((sumQ (bs.map UInt8.toNat) n).map v8).toArray) := by rw [HS.out]; exact hds.symm
          have HCC := Lib.hid (show _ ∧ _ ∧ _ from ⟨hsz, hone, hif⟩)
          clear hds q1 q2 q3 q4 hsz hone hif HJ HC
          go_wp2_with (first
            | (refine wpList_load_row rfl _ _ rfl B4 rfl _ _ _ _ A1.out Tryz.underlying25 rfl HCC.out.2.2 ?_)
            | (refine wpList_store_row rfl _ _ _ rfl B ds rfl rfl _ _ A0.out HCC.out.2.2 (by rw [HCC.out.1]; rfl) HCC.out.2.1 ?_))
          refine bodyPost_ret (results_cell_row rfl _ _ B _ _ _ _ rfl AR.out Tryz.underlying25 rfl HCC.out.2.2) rfl ?_
          exact ⟨by rw [HDS.out], by have := HBW.out; rw [hB] at this; exact this⟩
end Go.Proofs.YtcedojmhgmgcgaaGreatDoor
