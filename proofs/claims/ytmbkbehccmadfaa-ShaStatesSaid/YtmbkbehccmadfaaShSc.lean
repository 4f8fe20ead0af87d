/-
  sha: a list of things done.
-/
import Derived.Test.YtmbkbehccmadfaaShSb
namespace Go.Proofs.Ytmbkbehccmadfaa
open Go.RowKit Go
set_option linter.unusedVariables false
set_option linter.unusedSimpArgs false
set_option maxRecDepth 100000
theorem StR.re {B : Nat} {w0 w : World} {Q : Nat → Option Addr × Nat × Nat} {xs : Nat → List UInt8} {ys ys' : Nat → List Nat} {ts ts' : Nat → Nat} (h : StR B w0 Q xs ys ts w) (he : ∀ k, k < 3 → ys k = ys' k ∧ ts k = ts' k) : StR B w0 Q xs ys' ts' w :=
  ⟨h.own, h.far, fun k hk => by rw [← (he k hk).1, ← (he k hk).2]; exact h.st k hk, h.lcell, h.acell, h.afree, h.below, h.size⟩
theorem StR.held {B : Nat} {w0 w w9 : World} {Q : Nat → Option Addr × Nat × Nat} {xs : Nat → List UInt8} {ys : Nat → List Nat} {ts : Nat → Nat} (h : StR B w0 Q xs ys ts w) {k0 : Nat} (hk0 : k0 < 4) (hg : w.grownBy w9 (blk (Q k0).1)) :
    w9.cell? ⟨B + 4, k0, none⟩ = some (.slice (Q k0).1 (Q k0).2.1 (Q k0).2.2) ∧ w9.frozen? ⟨B + 4, k0, none⟩ = false ∧ Below B w0 w9 := by
  have hz := h.size
  have hn : ∀ k, blk (Q k0).1 = some k → B + 5 ≤ k := fun k hk => ((h.own k0 hk0).blk_lt hk).1
  have hr : some (B + 4) ≠ blk (Q k0).1 := fun e => by have := hn _ e.symm; omega
  exact ⟨(World.cell?_of_block (a := ⟨B + 4, k0, none⟩) (hg.block (B + 4) (by omega) hr)).trans (h.acell k0 hk0), (World.frozen?_of_block (a := ⟨B + 4, k0, none⟩) (hg.block (B + 4) (by omega) hr)).trans (h.afree k0), h.below.grown hg (by omega) (fun k e => by have := hn k e; omega)⟩
set_option maxHeartbeats 16000000 in
theorem states_walk (A : Option Addr) (n c : Nat) (os : Nat → OpP) (w : World) (h1 : IsOpPs w A n c os) :
    Calls Try.prog 4 #[.slice A n c] w fun e w' => e = .returned (.bool true) ∧ Below w.heap.size w w' := by
  have WK := Lib.hid (fun W => works_any W)
  have l1 : n ≤ 9223372036854775807 := by have h3 := h1.le; have h4 := h1.max; unfold maxLen at h4; omega
  have HR := Lib.hid h1
  obtain ⟨B, hB⟩ : ∃ B, w.heap.size = B := ⟨_, rfl⟩
  clear h1
  go_enter Try.func4, Try.ntmps4
  go_wp2_with fail
  refine (new_any w).mono ?_
  rintro e w1 ⟨rfl, hw1⟩
  have hs1 : w1.heap.size = B + 1 := by rw [hw1]; simp [hB]
  have hk1 : Holds w1 B [] 0 := by rw [hw1]; exact holds_new w _ hB.symm
  have hb1 : Below w.heap.size w w1 := by rw [hw1]; exact kp_alloc (Below.refl _ _) _
  rw [hB]
  clear hw1
  go_wp2_with fail
  refine (new_any w1).mono ?_
  rintro e w2 ⟨rfl, hw2⟩
  have hs2 : w2.heap.size = B + 2 := by rw [hw2]; simp [hs1]
  have hk2 : Holds w2 (B + 1) [] 0 := by rw [hw2]; exact holds_new w1 _ hs1.symm
  have hb2 : Below w1.heap.size w1 w2 := by rw [hw2]; exact kp_alloc (Below.refl _ _) _
  rw [hs1]
  clear hw2
  go_wp2_with (first
    | (refine wpList_buildTo rfl _ _ rfl _ rfl zeroState.toArray (by kernel_rfl) ?_)
    | (refine wpList_mkR sl_row _ _ rfl rfl _ _ _ _ 4 rfl rfl rfl rfl (by unfold maxLen; omega) (by omega) ?_))
  intro w5 hown5 hg5
  have hR := StR_init hB hs1 hs2 hk1 hb1 hk2 hb2 rfl hown5 hg5
  have H5 := Lib.hid hR
  clear hR hown5 hg5 hs1 hs2 hk1 hb1 hk2 hb2
  rw [show B + 2 + 1 + 1 = B + 4 from rfl, show B + 2 + 1 = B + 3 from rfl]
  go_wp2_with fail
  go_loopw [5] (fun vi wl => ∃ (i : Nat) (Q : Nat → Option Addr × Nat × Nat) (xs : Nat → List UInt8), vi = .int .i64 (i : Int) ∧ i ≤ n ∧ i ≤ 40 ∧ Hid ((∀ k, k < 4 → (Q k).2.1 ≤ 1024 * i) ∧ StR B w Q xs (fun k => (xs k).map UInt8.toNat) (fun k => (Q k).2.1) wl)) (fun vi _ => n - (intOf vi).toNat)
  case atStart => exact ⟨0, fun _ => (none, 0, 0), fun _ => [], rfl, Nat.zero_le _, Nat.zero_le _, fun k _ => Nat.le_refl _, H5.out⟩
  case round =>
    obtain ⟨i, Q, xs, rfl, hi, hi40, HK⟩ := hrel
    clear H5
    by_cases hlt : i < n
    · have i1 : (i : Int) < (n : Int) := by omega
      by_cases h40 : i < 40
      · have i2 : (i : Int) < 40 := by omega
        obtain ⟨b, off, rfl, hb, ho, hrow⟩ := HR.out.rows i hlt
        obtain ⟨⟨wh, sm, Xb, nb, cb, bb⟩, hX⟩ : ∃ y, os i = y := ⟨_, rfl⟩
        rw [hX] at ho hrow
        obtain ⟨hwh, _, hbs⟩ := ho
        simp only at hwh hbs
        have hw0 : w.cell? ⟨b, off + i * 3, none⟩ = some (.int .i64 wh) := hrow 0 _ rfl
        have hw1 : w.cell? ⟨b, off + i * 3 + 1, none⟩ = some (.bool sm) := hrow 1 _ rfl
        have hw2 : w.cell? ⟨b, off + i * 3 + 2, none⟩ = some (.slice Xb nb cb) := hrow 2 _ rfl
        have HC : Hid (∀ W, Below B w W → W.cell? ⟨b, off + i * 3, none⟩ = some (.int .i64 wh) ∧ W.cell? ⟨b, off + i * 3 + 1, none⟩ = some (.bool sm) ∧ W.cell? ⟨b, off + i * 3 + 2, none⟩ = some (.slice Xb nb cb)) := fun W h =>
          ⟨(h.cell (p := ⟨b, off + i * 3, none⟩) (by rw [← hB]; exact hb)).trans hw0, (h.cell (p := ⟨b, off + i * 3 + 1, none⟩) (by rw [← hB]; exact hb)).trans hw1, (h.cell (p := ⟨b, off + i * 3 + 2, none⟩) (by rw [← hB]; exact hb)).trans hw2⟩
        have hk1 := hbs.le
        have hk2 : cb ≤ 9223372036854775807 := by have h2 := hbs.max; unfold maxLen at h2; omega
        have HBS := Lib.hid hbs.rb
        obtain ⟨kk, hkk, hmod⟩ : ∃ kk : Nat, kk < 4 ∧ ((wh.tmod 4 = (kk : Int)) ∨ (wh.tmod 4 = (kk : Int) - 4 ∧ 0 < kk)) := by
          have h1 := Int.tmod_lt_of_pos wh (show (0 : Int) < 4 by omega)
          have h2 := Int.lt_tmod_of_pos wh (show (0 : Int) < 4 by omega)
          rcases Int.lt_or_le (wh.tmod 4) 0 with h | h
          · exact ⟨(wh.tmod 4 + 4).toNat, by omega, .inr ⟨by omega, by omega⟩⟩
          · exact ⟨(wh.tmod 4).toNat, by omega, .inl (by omega)⟩
        have e6 : IntKind.i64.wrap ((i : Int) + 1) = (i : Int) + 1 := IntWalk.i64_in _ (by omega)
        have HMOD := Lib.hid hmod
        obtain ⟨d0, d1, d2⟩ := HC.out _ HK.out.2.below
        clear hmod hX hw0 hw1 hw2 hrow hbs
        obtain ⟨wv, hwv⟩ : ∃ wv, wr = wv := ⟨_, rfl⟩
        have HWV := Lib.hid hwv
        clear hwv
        have e7 : IntKind.i64.wrap ((kk : Int) - 4 + 4) = (kk : Int) := by rw [show (kk : Int) - 4 + 4 = kk by omega]; exact IntWalk.i64_in _ (by omega)
        go_upto_if 43 with (fail)
        go_cut [6] (fun vk wx => vk = .int .i64 (kk : Int) ∧ wx = wv)
        case first => as_aux_lemma =>
          rcases HMOD.out with hm | ⟨hm, hm0⟩
          · have i3 : ¬ (kk : Int) < 0 := by omega
            clear HK HR HC HBS WK
            go_wp2_with fail
            go_meet
            exact ⟨rfl, HWV.out⟩
          · have i3 : (kk : Int) - 4 < 0 := by omega
            clear HK HR HC HBS WK
            go_wp2_with fail
            go_meet
            exact ⟨rfl, HWV.out⟩
        case rest => as_aux_lemma =>
          obtain ⟨rfl, hc2⟩ := hcut
          rw [hc2]
          have HK2 := HK
          rw [HWV.out] at HK2
          clear d0 d1 d2
          obtain ⟨d0, d1, d2⟩ := HC.out _ HK2.out.2.below
          clear HK HWV hc2
          by_cases hnb : nb ≤ 1024
          · have i4 : ¬ (nb : Int) > 1024 := by omega
            obtain ⟨⟨Ak, nk, ck⟩, hQ⟩ : ∃ y, Q kk = y := ⟨_, rfl⟩
            have ca := HK2.out.2.acell kk hkk
            have cl := HK2.out.2.lcell kk hkk
            have hok := HK2.out.2.own kk hkk
            have hnk := HK2.out.1 kk hkk
            rw [hQ] at ca hok hnk
            simp only at ca hok hnk
            have p1 : (0 : Int) ≤ (kk : Int) := by omega
            have p2 : (kk : Int) < 4 := by omega
            have hck : nk ≤ ck ∧ ck ≤ 9223372036854775807 := by have h5 := hok.cap; unfold maxLen at h5; omega
            obtain ⟨hck1, hck2⟩ := hck
            have HQ := Lib.hid hQ
            cases sm with
            | true =>
              obtain ⟨ds, hds⟩ : ∃ ds, ((sumQ ((xs kk).map UInt8.toNat) nk).map v8).toArray = ds := ⟨_, rfl⟩
              have hsame : ∀ W, (Op.equalIn 10000 25 (.agg ds) (.agg ds)).run Try.prog W = .ok true W := fun W => by rw [← hds]; exact dig_same _ (sumQ_len _ _) W
              have hone : ds.all (·.oneCell') = true := by rw [← hds]; exact all8 _
              have hsz : ds.size = 32 := by rw [← hds]; simp [sumQ_len]
              have hif : (Try.prog.info? 25).map (·.size) = some ds.size := by rw [hsz]; exact size_32
              have hif2 : (Try.prog.info? 25).map (·.size) = some ds.toList.length := by rw [Array.length_toList]; exact hif
              have DS := Lib.hid (dsum_s Ak nk ck (xs kk) ds hds wv hok.rb (by omega))
              have HI := Lib.hid (show _ ∧ _ ∧ _ ∧ _ from ⟨hone, hif, hif2, hsz⟩)
              have ST : Hid (kk < 3 → ∀ W, Below wv.heap.size wv W → Calls Try.prog 18 #[.pointer (some ⟨B + kk, 0, none⟩)] W fun e w' => e = .returned (.agg ds) ∧ Below W.heap.size W w') := fun h3 W hW => by
                have hh := HK2.out.2.st kk h3
                simp only [HQ.out] at hh
                have := stsum_any (B + kk) _ _ W (hh.below hW) (by omega)
                rw [hds] at this
                exact this
              clear hds hone hsz hif hif2 hok hQ HMOD e7
              by_cases h3 : kk < 3
              · have i5 : ¬ (kk : Int) = 3 := by omega
                have cl2 : wv.cell? ⟨B + 3, kk, none⟩ = some (.pointer (some ⟨B + kk, 0, none⟩)) := by rw [cl]; unfold ptrV; rw [if_pos h3]
                have HL := Lib.hid cl2
                have SS := Lib.hid (ST.out h3)
                clear cl cl2 ST
                go_wp2_with fail
                refine DS.out.mono ?_
                rintro e w6 ⟨rfl, hb6⟩
                have H6 : Hid (Below wv.heap.size wv w6) := hb6
                clear hb6 DS
                go_wp2_with (refine wpList_store_row rfl _ _ _ rfl w6.heap.size ds rfl rfl _ _ (has_new w6 _) HI.out.2.1 (by rw [HI.out.2.2.2]; rfl) HI.out.1 ?_)
                obtain ⟨G, hG⟩ : ∃ G, w6.heap.size = G := ⟨_, rfl⟩
                refine wp_nm fun w7 hw7 => ?_
                have a0 := has_new' w6 (.cells #[.int .u8 0, .int .u8 0, .int .u8 0, .int .u8 0, .int .u8 0, .int .u8 0, .int .u8 0, .int .u8 0, .int .u8 0, .int .u8 0, .int .u8 0, .int .u8 0, .int .u8 0, .int .u8 0, .int .u8 0, .int .u8 0, .int .u8 0, .int .u8 0, .int .u8 0, .int .u8 0, .int .u8 0, .int .u8 0, .int .u8 0, .int .u8 0, .int .u8 0, .int .u8 0, .int .u8 0, .int .u8 0, .int .u8 0, .int .u8 0, .int .u8 0, .int .u8 0] 25) G hG.symm
                have AR : w7.heap[G]? = some (.cells ds 25 (0, 0)) := by rw [← hw7, ← hG]; exact setRow_heap _ _ _ _ _ _ (by rw [hG]; exact a0)
                have hb7 : Below w6.heap.size w6 w7 := by rw [← hw7]; exact below_setRow (kp_alloc (Below.refl _ _) _) (Nat.le_refl _) ds
                have H7 : Hid (Below wv.heap.size wv w7) := kp_call H6.out hb7
                have c1 : w7.cell? ⟨B + 3, kk, none⟩ = some (.pointer (some ⟨B + kk, 0, none⟩)) := (H7.out.cell (p := ⟨B + 3, kk, none⟩) (by have := HK2.out.2.size; show B + 3 < _; omega)).trans HL.out
                have c2 : w7.rangeAt G 0 ds.toList := fun j v hv => by
                  rw [Nat.zero_add, Lib.cell_of_heap AR j]
                  simpa using hv
                have c3 : Below w7.heap.size w7 w7 := Below.refl _ _
                have KF : Hid (∀ W, Below w7.heap.size w7 W → W.cell? ⟨B + 3, kk, none⟩ = some (.pointer (some ⟨B + kk, 0, none⟩)) ∧ W.rangeAt G 0 ds.toList) := fun W hW => by
                  have hG7 := (Array.getElem?_eq_some_iff.1 AR).1
                  refine ⟨(hW.cell (p := ⟨B + 3, kk, none⟩) (by have := H7.out.size; have := HK2.out.2.size; show B + 3 < _; omega)).trans c1, fun j v hv => ?_⟩
                  exact (hW.cell (p := ⟨G, 0 + j, none⟩) hG7).trans (c2 j v hv)
                rw [hG]
                clear AR a0 hw7 hG hb7 H6
                have hsz : B + 5 ≤ wv.heap.size := HK2.out.2.size
                have hu32 := Try.underlying25
                have hi32 := HI.out.2.2.1
                clear c3
                go_region_held3 (fun W => W.cell? ⟨B + 3, kk, none⟩ = some (.pointer (some ⟨B + kk, 0, none⟩)) ∧ W.rangeAt G 0 ds.toList ∧ Below w7.heap.size w7 W)
                  (first | exact ⟨c1, c2, Below.refl _ _⟩ | exact ⟨c1, c2, Below.drew (Below.refl _ _)⟩ | exact ⟨f1, f2, f3⟩ | exact ⟨f1, f2, f3.drew⟩)
                  (first
                    | (go_at_call 18; (with_reducible refine (SS.out _ (by first | exact H7.out | exact H7.out.drew | exact kp_drew' H7.out)).mono ?_); (rintro e v1 ⟨rfl, hv1⟩; have f3 : Below w7.heap.size w7 v1 := kp_call (by first | exact Below.refl _ _ | exact Below.drew (Below.refl _ _)) hv1; obtain ⟨f1, f2⟩ := KF.out _ f3; have HV1 := Lib.hid f3; clear hv1))
                    | (refine step_load_mid rfl 25 _ rfl G 0 rfl ds _ (by first | exact c2 | exact f2) Try.underlying25 rfl HI.out.2.2.1 ?_))
                have HN : Hid ((∀ k, k < 4 → (Q k).2.1 ≤ 1024 * i) ∧ StR B w Q xs (fun k => (xs k).map UInt8.toNat) (fun k => (Q k).2.1) v1) := ⟨HK2.out.1, HK2.out.2.call (kp_call H7.out HV1.out)⟩
                clear HK2 KF SS HC HBS HL HI HQ H7 HV1 c1 c2 f1 f2 f3 hu32 hi32
                go_wp2
                go_roundw
                case rel => exact ⟨i + 1, Q, xs, by go_num, by omega, by omega, fun k hk => Nat.le_trans (HN.out.1 k hk) (by omega), HN.out.2⟩
                case measure => simp [intOf]; omega
              · obtain rfl : kk = 3 := by omega
                have i5 : ((3 : Nat) : Int) = 3 := rfl
                have cl2 : wv.cell? ⟨B + 3, 3, none⟩ = some (.pointer none) := cl
                have HL := Lib.hid cl2
                obtain ⟨zs, hzs⟩ : ∃ zs, (z32.map v8).toArray = zs := ⟨_, rfl⟩
                have hzz : ∀ W, (Op.equalIn 10000 25 (.agg zs) (.agg zs)).run Try.prog W = .ok true W := fun W => by rw [← hzs]; exact dig_same z32 rfl W
                have HZ := Lib.hid (show zs.all (·.oneCell') = true ∧ (Try.prog.info? 25).map (·.size) = some zs.size ∧ (Try.prog.info? 25).map (·.size) = some zs.toList.length ∧ zs.size = 32 from by rw [← hzs]; exact ⟨all8 _, size_32, size_32, rfl⟩)
                have SS := Lib.hid (fun W => snil_any W)
                rw [hzs] at SS
                have HZE : Hid (zs = (z32.map v8).toArray) := hzs.symm
                clear cl cl2 ST hzs hsame
                go_wp2_with fail
                refine DS.out.mono ?_
                rintro e w6 ⟨rfl, hb6⟩
                have H6 : Hid (Below wv.heap.size wv w6) := hb6
                clear hb6 DS
                go_wp2_with (first
                  | (refine wpList_store_row rfl _ _ _ rfl w6.heap.size ds rfl rfl _ _ (has_new w6 _) HI.out.2.1 (by rw [HI.out.2.2.2]; rfl) HI.out.1 ?_)
                  | (refine wpList_store_row rfl _ _ _ rfl w6.heap.size (z32.map v8).toArray rfl rfl _ _ (setRow_heap _ _ _ _ _ _ (has_new w6 _)) size_32 HI.out.2.2.2 (all8 _) ?_))
                obtain ⟨G, hG⟩ : ∃ G, w6.heap.size = G := ⟨_, rfl⟩
                refine wp_nm fun w7 hw7 => ?_
                have a0 := has_new' w6 (.cells #[.int .u8 0, .int .u8 0, .int .u8 0, .int .u8 0, .int .u8 0, .int .u8 0, .int .u8 0, .int .u8 0, .int .u8 0, .int .u8 0, .int .u8 0, .int .u8 0, .int .u8 0, .int .u8 0, .int .u8 0, .int .u8 0, .int .u8 0, .int .u8 0, .int .u8 0, .int .u8 0, .int .u8 0, .int .u8 0, .int .u8 0, .int .u8 0, .int .u8 0, .int .u8 0, .int .u8 0, .int .u8 0, .int .u8 0, .int .u8 0, .int .u8 0, .int .u8 0] 25) G hG.symm
                have AR : w7.heap[G]? = some (.cells zs 25 (0, 0)) := by rw [← hw7, ← hG, HZE.out]; exact setRow_heap _ _ _ _ _ _ (setRow_heap _ _ _ _ _ _ (by rw [hG]; exact a0))
                have hb7 : Below w6.heap.size w6 w7 := by rw [← hw7]; exact below_setRow (below_setRow (kp_alloc (Below.refl _ _) _) (Nat.le_refl _) _) (Nat.le_refl _) _
                have H7 : Hid (Below wv.heap.size wv w7) := kp_call H6.out hb7
                have c1 : w7.cell? ⟨B + 3, 3, none⟩ = some (.pointer none) := (H7.out.cell (p := ⟨B + 3, 3, none⟩) (by have := HK2.out.2.size; show B + 3 < _; omega)).trans HL.out
                have c2 : w7.rangeAt G 0 zs.toList := fun j v hv => by
                  rw [Nat.zero_add, Lib.cell_of_heap AR j]
                  simpa using hv
                have c3 : Below w7.heap.size w7 w7 := Below.refl _ _
                have KF : Hid (∀ W, Below w7.heap.size w7 W → W.cell? ⟨B + 3, 3, none⟩ = some (.pointer none) ∧ W.rangeAt G 0 zs.toList) := fun W hW => by
                  have hG7 := (Array.getElem?_eq_some_iff.1 AR).1
                  refine ⟨(hW.cell (p := ⟨B + 3, 3, none⟩) (by have := H7.out.size; have := HK2.out.2.size; show B + 3 < _; omega)).trans c1, fun j v hv => ?_⟩
                  exact (hW.cell (p := ⟨G, 0 + j, none⟩) hG7).trans (c2 j v hv)
                rw [hG]
                clear AR a0 hw7 hG hb7 H6
                have hsz : B + 5 ≤ wv.heap.size := HK2.out.2.size
                have hu32 := Try.underlying25
                have hi32 := HZ.out.2.2.1
                clear c3
                go_region_held3 (fun W => W.cell? ⟨B + 3, 3, none⟩ = some (.pointer none) ∧ W.rangeAt G 0 zs.toList ∧ Below w7.heap.size w7 W)
                  (first | exact ⟨c1, c2, Below.refl _ _⟩ | exact ⟨c1, c2, Below.drew (Below.refl _ _)⟩ | exact ⟨f1, f2, f3⟩ | exact ⟨f1, f2, f3.drew⟩)
                  (first
                    | (go_at_call 18; (with_reducible refine (SS.out _).mono ?_); (rintro e v1 ⟨rfl, hv1⟩; have f3 : Below w7.heap.size w7 v1 := kp_call (by first | exact Below.refl _ _ | exact Below.drew (Below.refl _ _)) hv1; obtain ⟨f1, f2⟩ := KF.out _ f3; have HV1 := Lib.hid f3; clear hv1))
                    | (refine step_load_mid rfl 25 _ rfl G 0 rfl zs _ (by first | exact c2 | exact f2) Try.underlying25 rfl HZ.out.2.2.1 ?_))
                have HN : Hid ((∀ k, k < 4 → (Q k).2.1 ≤ 1024 * i) ∧ StR B w Q xs (fun k => (xs k).map UInt8.toNat) (fun k => (Q k).2.1) v1) := ⟨HK2.out.1, HK2.out.2.call (kp_call H7.out HV1.out)⟩
                clear HK2 KF SS HC HBS HL HI HZ HQ H7 HV1 c1 c2 f1 f2 f3 hu32 hi32
                go_wp2
                go_roundw
                case rel => exact ⟨i + 1, Q, xs, by go_num, by omega, by omega, fun k hk => Nat.le_trans (HN.out.1 k hk) (by omega), HN.out.2⟩
                case measure => simp [intOf]; omega
            | false =>
              have RBv : Hid (RB wv Xb nb bb) := HBS.out.below (by have := HK2.out.2.below; rw [hB]; exact this)
              have CP := Lib.hid (copy_any Xb nb cb bb wv RBv.out (by omega))
              have HL9 : Hid (∀ k, k < 4 → (Q k).2.1 ≤ 1024 * i) := HK2.out.1
              have hszv := HK2.out.2.size
              clear HMOD e7 hok hQ
              go_wp2_with fail
              refine CP.out.mono ?_
              rintro e w6 ⟨A8, n8, c8, rfl, hown8, hb6⟩
              obtain rfl : n8 = nb := hown8.len.symm.trans RBv.out.1
              have h8c := hown8.cap
              unfold maxLen at h8c
              obtain ⟨h8c1, h8c2⟩ := h8c
              have h8c3 : c8 ≤ 9223372036854775807 := by omega
              have H6 : Hid (StR B w Q xs (fun k => (xs k).map UInt8.toNat) (fun k => (Q k).2.1) w6) := HK2.out.2.call hb6
              have O6 : Hid (OwnB w6 (B + 5) A8 n8 c8 bb) := hown8.lower (by omega)
              have F8 : Hid (∀ k, k < 4 → ∀ g, blk A8 = some g → blk (Q k).1 ≠ some g) := fun k hk g hg hq => by
                have h1 := (hown8.blk_lt hg).1
                have h2 := ((HK2.out.2.own k hk).blk_lt hq).2
                omega
              clear hown8 hb6 CP RBv HK2 ca cl d0 d1 d2
              by_cases h3 : kk < 3
              · have cl2 : w6.cell? ⟨B + 3, kk, none⟩ = some (.pointer (some ⟨B + kk, 0, none⟩)) := by rw [H6.out.lcell kk hkk]; unfold ptrV; rw [if_pos h3]
                have hst := H6.out.st kk h3
                have hQ7 := HQ.out
                simp only [hQ7] at hst
                have WA := Lib.hid (write_any (B + kk) A8 n8 c8 ((xs kk).map UInt8.toNat) nk bb w6 hst (Src.of_bs O6.out.reads (Nat.le_refl _) (fun b off e => by subst e; have := (O6.out.blk_lt (k := b) rfl).1; omega)) O6.out.len (by omega) h8c1 h8c3 (by omega))
                clear hst
                go_wp2_with fail
                refine WA.out.mono ?_
                rintro e w7 ⟨rfl, hos, hg7⟩
                rw [Nat.mod_eq_of_lt (by omega)] at hos
                have H7 := Lib.hid (H6.out.write h3 hg7 (Or.inl hos))
                have O7 : Hid (OwnB w7 (B + 5) A8 n8 c8 bb) := O6.out.kept hg7 (far_num O6.out (by omega))
                clear hos hg7 WA H6 O6 cl2 HQ

                have HE := Lib.hid (hQ7 : Q kk = (Ak, nk, ck))
                have c1 : w7.drew.cell? ⟨B + 4, kk, none⟩ = some (.slice Ak nk ck) := by have := H7.out.acell kk hkk; rw [hQ7] at this; exact this
                have c2 : w7.drew.cell? ⟨b, off + i * 3 + 2, none⟩ = some (.slice Xb n8 cb) := (HC.out _ H7.out.below).2.2
                have c3 : w7.drew.frozen? ⟨B + 4, kk, none⟩ = false := H7.out.afree kk
                have hz7 : B + 5 ≤ w7.heap.size := H7.out.size
                have hbB : B + 4 ≠ b := by omega
                have OWK : Hid (OwnB w7.drew (B + 5) Ak nk ck (xs kk)) := by have := H7.out.own kk hkk; rw [hQ7] at this; exact this
                have RB7 : Hid (RB w7.drew Xb n8 bb) := HBS.out.below (by have := H7.out.below; rw [hB]; exact this.drew)
                have HK9 : Hid (∀ W, w7.drew.grownBy W (blk Ak) → W.cell? ⟨B + 4, kk, none⟩ = some (.slice Ak nk ck) ∧ W.cell? ⟨b, off + i * 3 + 2, none⟩ = some (.slice Xb n8 cb) ∧ W.frozen? ⟨B + 4, kk, none⟩ = false) := fun W hW => by
                  have hd := H7.out.call (w' := w7.drew) ((Below.refl _ _).drew)
                  have h9 := hd.held (k0 := kk) hkk (w9 := W) (by rw [hQ7]; exact hW)
                  rw [hQ7] at h9
                  exact ⟨h9.1, (HC.out _ h9.2.2).2.2, h9.2.1⟩
                have HAPP : Hid (∀ A9 c9 w9, OwnB w9 (B + 5) A9 (nk + n8) c9 (xs kk ++ bb) → w7.drew.grownBy w9 (blk Ak) → (blk A9 = blk Ak ∨ blk A9 = some w7.drew.heap.size) → ∃ (Q' : Nat → Option Addr × Nat × Nat) (xs' : Nat → List UInt8), (∀ k, k < 4 → (Q' k).2.1 ≤ 1024 * (i + 1)) ∧ (∀ k, k < 4 → ∀ g, blk A8 = some g → blk (Q' k).1 ≠ some g) ∧ OwnB (w9.setCell ⟨B + 4, kk, none⟩ (.slice A9 (nk + n8) c9)) (B + 5) A8 n8 c8 bb ∧ StR B w Q' xs' (fun k => (xs' k).map UInt8.toNat) (fun k => (Q' k).2.1) (w9.setCell ⟨B + 4, kk, none⟩ (.slice A9 (nk + n8) c9))) := fun A9 c9 w9 ho9 hg9 hp9 => by
                  have hd := H7.out.call (w' := w7.drew) ((Below.refl _ _).drew)
                  have ha := hd.app (k0 := kk) hkk ho9 (by rw [hQ7]; exact hg9) (by rw [hQ7]; exact hp9)
                  have h8k : blk A8 = none ∨ blk A8 ≠ blk Ak := by
                    cases e8 : blk A8 with
                    | none => exact .inl rfl
                    | some g =>
                      right
                      intro e2
                      have := F8.out kk hkk g e8
                      rw [hQ7] at this
                      exact this e2.symm
                  have hset : w9.grownBy (w9.setCell ⟨B + 4, kk, none⟩ (.slice A9 (nk + n8) c9)) (some (B + 4)) := ⟨rfl, rfl, rfl, by simp, fun k _ hne => Below.heap_setCell _ _ _ _ (fun e => hne (by rw [e]))⟩
                  have o8 : OwnB w9 (B + 5) A8 n8 c8 bb := OwnB.kept (w := w7.drew) (O7.out.drew) hg9 h8k
                  refine ⟨_, _, fun k hk => ?_, fun k hk g hg8 => ?_, o8.kept hset (far_num o8 (by omega)), ha.re fun k hk => ?_⟩
                  · have hl := HL9.out k hk
                    by_cases e : k = kk
                    · simp only [if_pos e]; omega
                    · simp only [if_neg e]; omega
                  · by_cases e : k = kk
                    · simp only [if_pos e]
                      have hlt8 := (OwnB.blk_lt O7.out hg8).2
                      rcases hp9 with e9 | e9
                      · have := F8.out kk hkk g hg8
                        rw [hQ7] at this
                        rw [e9]; exact this
                      · rw [e9]; intro e10; injection e10 with e10; have e11 : w7.heap.size = g := e10; omega
                    · simp only [if_neg e]; exact F8.out k hk g hg8
                  · by_cases e : k = kk
                    · simp only [if_pos e, List.map_append]
                      exact ⟨trivial, trivial⟩
                    · simp only [if_neg e]
                      exact ⟨trivial, trivial⟩
                clear hQ7 H7 F8 HL9 O7 
                go_wp2_with fail
                refine wp_region_held_drew (S := fun W => W.cell? ⟨b, off + i * 3 + 2, none⟩ = some (.slice Xb n8 cb) ∧ W.frozen? ⟨B + 4, kk, none⟩ = false) (by kernel_rfl) ⟨c2, c3⟩ (fun hHeld => ?_)
                refine wpAnyH_take (i := 0) (oi := _) (v := ?_) rfl (by kernel_rfl) (by kernel_rfl) (by kernel_rfl) (fun _ _ _ h => h) (Or.inl ⟨by rfl, ?_⟩) hHeld ?_
                rotate_left
                · (intro w hSw; (try dsimp only at hSw); go_simp; (try with_reducible rfl))
                (try simp only [Act.put, List.getElem_toArray, List.getElem_cons_succ, List.getElem_cons_zero, List.setIfInBounds_toArray, List.set_cons_zero, List.set_cons_succ])
                refine wpAnyH_take (i := 1) (oi := _) (v := ?_) rfl (by kernel_rfl) (by kernel_rfl) (by kernel_rfl) (fun _ _ _ h => h) (Or.inl ⟨by rfl, ?_⟩) hHeld ?_
                rotate_left
                · (intro w hSw; (try dsimp only at hSw); go_simp; (try with_reducible rfl))
                (try simp only [Act.put, List.getElem_toArray, List.getElem_cons_succ, List.getElem_cons_zero, List.setIfInBounds_toArray, List.set_cons_zero, List.set_cons_succ])
                refine wpAnyH_take (i := 2) (oi := _) (v := ?_) rfl (by kernel_rfl) (by kernel_rfl) (by kernel_rfl) (fun _ _ _ h => h) (Or.inl ⟨by rfl, ?_⟩) hHeld ?_
                rotate_left
                · (intro w hSw; (try dsimp only at hSw); go_simp; (try with_reducible rfl))
                (try simp only [Act.put, List.getElem_toArray, List.getElem_cons_succ, List.getElem_cons_zero, List.setIfInBounds_toArray, List.set_cons_zero, List.set_cons_succ])
                refine wpAnyH_take (i := 3) (oi := _) (v := ?_) rfl (by kernel_rfl) (by kernel_rfl) (by kernel_rfl) (fun _ _ _ h => h) (Or.inl ⟨by rfl, ?_⟩) hHeld ?_
                rotate_left
                · (intro w hSw; (try dsimp only at hSw); go_simp; (try with_reducible rfl))
                (try simp only [Act.put, List.getElem_toArray, List.getElem_cons_succ, List.getElem_cons_zero, List.setIfInBounds_toArray, List.set_cons_zero, List.set_cons_succ])
                refine wpAnyH_take (i := 4) (oi := _) (v := ?_) rfl (by kernel_rfl) (by kernel_rfl) (by kernel_rfl) (fun _ _ _ h => h) (Or.inl ⟨by rfl, ?_⟩) hHeld ?_
                rotate_left
                · (intro w hSw; (try dsimp only at hSw); go_simp; (try with_reducible rfl))
                (try simp only [Act.put, List.getElem_toArray, List.getElem_cons_succ, List.getElem_cons_zero, List.setIfInBounds_toArray, List.set_cons_zero, List.set_cons_succ])
                refine wpAnyH_take (i := 6) (oi := _) (v := ?_) rfl (by kernel_rfl) (by kernel_rfl) (by kernel_rfl) (fun _ _ _ h => h) (Or.inl ⟨by rfl, ?_⟩) hHeld ?_
                rotate_left
                · (intro w hSw; (try dsimp only at hSw); go_simp; (try with_reducible rfl))
                (try simp only [Act.put, List.getElem_toArray, List.getElem_cons_succ, List.getElem_cons_zero, List.setIfInBounds_toArray, List.set_cons_zero, List.set_cons_succ])
                refine wpAnyH_take (i := 7) (oi := _) (v := ?_) rfl (by kernel_rfl) (by kernel_rfl) (by kernel_rfl) (fun _ _ _ h => h) (Or.inl ⟨by rfl, ?_⟩) hHeld ?_
                rotate_left
                · (intro w hSw; (try dsimp only at hSw); go_simp; (try with_reducible rfl))
                (try simp only [Act.put, List.getElem_toArray, List.getElem_cons_succ, List.getElem_cons_zero, List.setIfInBounds_toArray, List.set_cons_zero, List.set_cons_succ])
                refine wpAnyH_take (i := 8) (oi := _) (v := ?_) rfl (by kernel_rfl) (by kernel_rfl) (by kernel_rfl) (fun _ _ _ h => h) (Or.inl ⟨by rfl, ?_⟩) hHeld ?_
                rotate_left
                · (intro w hSw; (try dsimp only at hSw); go_simp; (try with_reducible rfl))
                (try simp only [Act.put, List.getElem_toArray, List.getElem_cons_succ, List.getElem_cons_zero, List.setIfInBounds_toArray, List.set_cons_zero, List.set_cons_succ])
                refine wpAnyH_take (i := 9) (oi := _) (v := ?_) rfl (by kernel_rfl) (by kernel_rfl) (by kernel_rfl) (fun _ _ _ h => h) (Or.inl ⟨by rfl, ?_⟩) hHeld ?_
                rotate_left
                · (intro w hSw; (try dsimp only at hSw); go_simp; (try with_reducible rfl))
                (try simp only [Act.put, List.getElem_toArray, List.getElem_cons_succ, List.getElem_cons_zero, List.setIfInBounds_toArray, List.set_cons_zero, List.set_cons_succ])
                refine wpAnyH_take (i := 10) (oi := _) (v := ?_) rfl (by kernel_rfl) (by kernel_rfl) (by kernel_rfl) (fun _ _ _ h => h) (Or.inl ⟨by rfl, ?_⟩) hHeld ?_
                rotate_left
                · (intro w hSw; (try dsimp only at hSw); go_simp; (try with_reducible rfl))
                (try simp only [Act.put, List.getElem_toArray, List.getElem_cons_succ, List.getElem_cons_zero, List.setIfInBounds_toArray, List.set_cons_zero, List.set_cons_succ])
                refine wpAnyH_ready (rs := [5]) (by kernel_rfl) (by simp) ?_
                refine AllReadyH.cons (o := _) rfl (fun K hK => ?_) AllReadyH.nil
                go_simp
                refine hK.out _ _ ⟨c2, c3⟩ (fun hHeld => ?_)
                clear hK K
                (try simp only [Act.put, List.getElem_toArray, List.getElem_cons_succ, List.getElem_cons_zero, List.setIfInBounds_toArray, List.set_cons_zero, List.set_cons_succ])
                refine wpAnyH_ready (rs := [11]) (by kernel_rfl) (by simp) ?_
                refine AllReadyH.cons (o := _) rfl (fun K hK => ?_) AllReadyH.nil
                refine step_appA (by rfl) _ _ (by rfl) (by rfl) (B + 5) Ak nk ck (xs kk) (by rfl) OWK.out Xb n8 cb bb (by rfl) RB7.out (by omega) hz7 ?_
                intro A9 c9 w9 ho9 hg9 hp9
                obtain ⟨f1, f2, f3⟩ := HK9.out _ hg9
                have HA9 := Lib.hid (HAPP.out A9 c9 w9 ho9 hg9 hp9)
                clear ho9 hg9 hp9 hHeld
                refine hK.out _ _ ⟨f2, f3⟩ (fun hHeld => ?_)
                clear hK K
                (try simp only [Act.put, List.getElem_toArray, List.getElem_cons_succ, List.getElem_cons_zero, List.setIfInBounds_toArray, List.set_cons_zero, List.set_cons_succ])
                refine wpAnyH_take (i := 12) (oi := _) (v := ?_) rfl (by kernel_rfl) (by kernel_rfl) (by kernel_rfl) (fun _ _ _ h => h) (Or.inl ⟨by rfl, ?_⟩) hHeld ?_
                rotate_left
                · (intro w hSw; (try dsimp only at hSw); go_simp; (try with_reducible rfl))
                (try simp only [Act.put, List.getElem_toArray, List.getElem_cons_succ, List.getElem_cons_zero, List.setIfInBounds_toArray, List.set_cons_zero, List.set_cons_succ])
                refine wpAnyH_ready (rs := [13]) (by kernel_rfl) (by simp) ?_
                refine AllReadyH.cons (o := _) rfl (fun K hK => ?_) AllReadyH.nil
                go_simp
                refine hK.out _ _ ⟨(World.cell?_setCell_far _ _ _ _ hbB).trans f2, by rw [World.frozen?_setCell]; exact f3⟩ (fun hHeld => ?_)
                clear hK K hHeld
                (try simp only [Act.put, List.getElem_toArray, List.getElem_cons_succ, List.getElem_cons_zero, List.setIfInBounds_toArray, List.set_cons_zero, List.set_cons_succ])
                refine wpAnyH_done (by kernel_rfl) ?_ _
                all_goals
                  obtain ⟨Q', xs', hl', hf', ho', hs'⟩ := HA9.out
                  obtain ⟨w10, hw10⟩ : ∃ w10, w9.setCell ⟨B + 4, kk, none⟩ (.slice A9 (nk + n8) c9) = w10 := ⟨_, rfl⟩
                  rw [hw10] at ho' hs' ⊢
                  have HF := Lib.hid hf'
                  have HLN := Lib.hid hl'
                  have H10 : Hid (OwnB w10 (B + 5) A8 n8 c8 bb ∧ StR B w Q' xs' (fun k => (xs' k).map UInt8.toNat) (fun k => (Q' k).2.1) w10) := ⟨ho', hs'⟩
                  have c10 := (HC.out _ hs'.below).2.2
                  have EQ := Lib.hid (eq_s A8 Xb n8 n8 c8 cb bb bb true (by simp) w10 ho'.rb (HBS.out.below (by have := hs'.below; rw [hB]; exact this)))
                  clear hl' hf' ho' hs' HA9 HAPP HK9 OWK RB7 c1 c2 c3 f1 f2 f3 hw10
                  go_wp2_with fail
                  refine EQ.out.mono ?_
                  rintro e w11 ⟨rfl, rfl⟩
                  clear EQ
                  go_wp2_with fail
                  go_loopw [9] (fun vj wl => ∃ (j : Nat) (l8 : List UInt8), vj = .int .i64 (j : Int) ∧ j ≤ n8 ∧ Hid (OwnB wl (B + 5) A8 n8 c8 l8 ∧ StR B w Q' xs' (fun k => (xs' k).map UInt8.toNat) (fun k => (Q' k).2.1) wl)) (fun vj _ => n8 - (intOf vj).toNat)
                  case atStart => exact ⟨0, bb, rfl, Nat.zero_le _, H10.out⟩
                  case round =>
                    obtain ⟨j, l8, rfl, hj, HJ⟩ := hrel
                    clear H10
                    by_cases hjn : j < n8
                    · have j1 : (j : Int) < (n8 : Int) := by omega
                      have j2 : (0 : Int) ≤ (j : Int) := by omega
                      have e8 : IntKind.i64.wrap ((j : Int) + 1) = (j : Int) + 1 := IntWalk.i64_in _ (by omega)
                      obtain ⟨g8, rfl, hg81, hg82⟩ := HJ.out.1.shape (by omega)
                      obtain ⟨q, hq⟩ : ∃ q, l8[j]? = some q := ⟨_, List.getElem?_eq_getElem (by rw [HJ.out.1.len]; exact hjn)⟩
                      have k1 := HJ.out.1.cellAt j q hq
                      have k2 := HJ.out.1.free j
                      have HJ2 : Hid (OwnB (wr.setCell ⟨g8, j, none⟩ (.int .u8 92)) (B + 5) (some ⟨g8, 0, none⟩) n8 c8 (l8.set j 92) ∧ StR B w Q' xs' (fun k => (xs' k).map UInt8.toNat) (fun k => (Q' k).2.1) (wr.setCell ⟨g8, j, none⟩ (.int .u8 92))) := ⟨HJ.out.1.stored j 92, HJ.out.2.set hg81 (fun k hk => HF.out k hk g8 rfl) j _⟩
                      clear HJ hq
                      go_wp2
                      go_roundw
                      case rel => exact ⟨j + 1, _, by go_num, by omega, HJ2.out⟩
                      case measure => simp [intOf]; omega
                    · have j1 : ¬ (j : Int) < (n8 : Int) := by omega
                      have HN : Hid ((∀ k, k < 4 → (Q' k).2.1 ≤ 1024 * (i + 1)) ∧ StR B w Q' xs' (fun k => (xs' k).map UInt8.toNat) (fun k => (Q' k).2.1) wr) := ⟨HLN.out, HJ.out.2⟩
                      clear HJ HF HLN c10
                      go_wp2
                      go_roundw
                      case rel => exact ⟨i + 1, Q', xs', by go_num, by omega, by omega, HN.out⟩
                      case measure => simp [intOf]; omega
              · obtain rfl : kk = 3 := by omega
                have cl2 : w6.cell? ⟨B + 3, 3, none⟩ = some (.pointer none) := H6.out.lcell 3 hkk
                have hQ7 := HQ.out
                have WN := Lib.hid (fun W => wnil_any A8 n8 c8 W)
                go_wp2_with fail
                refine (WN.out _).mono ?_
                rintro e w7 ⟨rfl, rfl⟩
                have H7 := H6
                have O7 := O6
                clear WN H6 O6 cl2 HQ

                have HE := Lib.hid (hQ7 : Q 3 = (Ak, nk, ck))
                have c1 : w7.drew.cell? ⟨B + 4, 3, none⟩ = some (.slice Ak nk ck) := by have := H7.out.acell 3 hkk; rw [hQ7] at this; exact this
                have c2 : w7.drew.cell? ⟨b, off + i * 3 + 2, none⟩ = some (.slice Xb n8 cb) := (HC.out _ H7.out.below).2.2
                have c3 : w7.drew.frozen? ⟨B + 4, 3, none⟩ = false := H7.out.afree 3
                have hz7 : B + 5 ≤ w7.heap.size := H7.out.size
                have hbB : B + 4 ≠ b := by omega
                have OWK : Hid (OwnB w7.drew (B + 5) Ak nk ck (xs 3)) := by have := H7.out.own 3 hkk; rw [hQ7] at this; exact this
                have RB7 : Hid (RB w7.drew Xb n8 bb) := HBS.out.below (by have := H7.out.below; rw [hB]; exact this.drew)
                have HK9 : Hid (∀ W, w7.drew.grownBy W (blk Ak) → W.cell? ⟨B + 4, 3, none⟩ = some (.slice Ak nk ck) ∧ W.cell? ⟨b, off + i * 3 + 2, none⟩ = some (.slice Xb n8 cb) ∧ W.frozen? ⟨B + 4, 3, none⟩ = false) := fun W hW => by
                  have hd := H7.out.call (w' := w7.drew) ((Below.refl _ _).drew)
                  have h9 := hd.held (k0 := 3) hkk (w9 := W) (by rw [hQ7]; exact hW)
                  rw [hQ7] at h9
                  exact ⟨h9.1, (HC.out _ h9.2.2).2.2, h9.2.1⟩
                have HAPP : Hid (∀ A9 c9 w9, OwnB w9 (B + 5) A9 (nk + n8) c9 (xs 3 ++ bb) → w7.drew.grownBy w9 (blk Ak) → (blk A9 = blk Ak ∨ blk A9 = some w7.drew.heap.size) → ∃ (Q' : Nat → Option Addr × Nat × Nat) (xs' : Nat → List UInt8), (∀ k, k < 4 → (Q' k).2.1 ≤ 1024 * (i + 1)) ∧ (∀ k, k < 4 → ∀ g, blk A8 = some g → blk (Q' k).1 ≠ some g) ∧ OwnB (w9.setCell ⟨B + 4, 3, none⟩ (.slice A9 (nk + n8) c9)) (B + 5) A8 n8 c8 bb ∧ StR B w Q' xs' (fun k => (xs' k).map UInt8.toNat) (fun k => (Q' k).2.1) (w9.setCell ⟨B + 4, 3, none⟩ (.slice A9 (nk + n8) c9))) := fun A9 c9 w9 ho9 hg9 hp9 => by
                  have hd := H7.out.call (w' := w7.drew) ((Below.refl _ _).drew)
                  have ha := hd.app (k0 := 3) hkk ho9 (by rw [hQ7]; exact hg9) (by rw [hQ7]; exact hp9)
                  have h8k : blk A8 = none ∨ blk A8 ≠ blk Ak := by
                    cases e8 : blk A8 with
                    | none => exact .inl rfl
                    | some g =>
                      right
                      intro e2
                      have := F8.out 3 hkk g e8
                      rw [hQ7] at this
                      exact this e2.symm
                  have hset : w9.grownBy (w9.setCell ⟨B + 4, 3, none⟩ (.slice A9 (nk + n8) c9)) (some (B + 4)) := ⟨rfl, rfl, rfl, by simp, fun k _ hne => Below.heap_setCell _ _ _ _ (fun e => hne (by rw [e]))⟩
                  have o8 : OwnB w9 (B + 5) A8 n8 c8 bb := OwnB.kept (w := w7.drew) (O7.out.drew) hg9 h8k
                  refine ⟨_, _, fun k hk => ?_, fun k hk g hg8 => ?_, o8.kept hset (far_num o8 (by omega)), ha.re fun k hk => ?_⟩
                  · have hl := HL9.out k hk
                    by_cases e : k = 3
                    · simp only [if_pos e]; omega
                    · simp only [if_neg e]; omega
                  · by_cases e : k = 3
                    · simp only [if_pos e]
                      have hlt8 := (OwnB.blk_lt O7.out hg8).2
                      rcases hp9 with e9 | e9
                      · have := F8.out 3 hkk g hg8
                        rw [hQ7] at this
                        rw [e9]; exact this
                      · rw [e9]; intro e10; injection e10 with e10; have e11 : w7.heap.size = g := e10; omega
                    · simp only [if_neg e]; exact F8.out k hk g hg8
                  · have e : k ≠ 3 := by omega
                    simp only [if_neg e]
                    exact ⟨trivial, trivial⟩
                clear hQ7 H7 F8 HL9 O7 
                go_wp2_with fail
                refine wp_region_held_drew (S := fun W => W.cell? ⟨b, off + i * 3 + 2, none⟩ = some (.slice Xb n8 cb) ∧ W.frozen? ⟨B + 4, 3, none⟩ = false) (by kernel_rfl) ⟨c2, c3⟩ (fun hHeld => ?_)
                refine wpAnyH_take (i := 0) (oi := _) (v := ?_) rfl (by kernel_rfl) (by kernel_rfl) (by kernel_rfl) (fun _ _ _ h => h) (Or.inl ⟨by rfl, ?_⟩) hHeld ?_
                rotate_left
                · (intro w hSw; (try dsimp only at hSw); go_simp; (try with_reducible rfl))
                (try simp only [Act.put, List.getElem_toArray, List.getElem_cons_succ, List.getElem_cons_zero, List.setIfInBounds_toArray, List.set_cons_zero, List.set_cons_succ])
                refine wpAnyH_take (i := 1) (oi := _) (v := ?_) rfl (by kernel_rfl) (by kernel_rfl) (by kernel_rfl) (fun _ _ _ h => h) (Or.inl ⟨by rfl, ?_⟩) hHeld ?_
                rotate_left
                · (intro w hSw; (try dsimp only at hSw); go_simp; (try with_reducible rfl))
                (try simp only [Act.put, List.getElem_toArray, List.getElem_cons_succ, List.getElem_cons_zero, List.setIfInBounds_toArray, List.set_cons_zero, List.set_cons_succ])
                refine wpAnyH_take (i := 2) (oi := _) (v := ?_) rfl (by kernel_rfl) (by kernel_rfl) (by kernel_rfl) (fun _ _ _ h => h) (Or.inl ⟨by rfl, ?_⟩) hHeld ?_
                rotate_left
                · (intro w hSw; (try dsimp only at hSw); go_simp; (try with_reducible rfl))
                (try simp only [Act.put, List.getElem_toArray, List.getElem_cons_succ, List.getElem_cons_zero, List.setIfInBounds_toArray, List.set_cons_zero, List.set_cons_succ])
                refine wpAnyH_take (i := 3) (oi := _) (v := ?_) rfl (by kernel_rfl) (by kernel_rfl) (by kernel_rfl) (fun _ _ _ h => h) (Or.inl ⟨by rfl, ?_⟩) hHeld ?_
                rotate_left
                · (intro w hSw; (try dsimp only at hSw); go_simp; (try with_reducible rfl))
                (try simp only [Act.put, List.getElem_toArray, List.getElem_cons_succ, List.getElem_cons_zero, List.setIfInBounds_toArray, List.set_cons_zero, List.set_cons_succ])
                refine wpAnyH_take (i := 4) (oi := _) (v := ?_) rfl (by kernel_rfl) (by kernel_rfl) (by kernel_rfl) (fun _ _ _ h => h) (Or.inl ⟨by rfl, ?_⟩) hHeld ?_
                rotate_left
                · (intro w hSw; (try dsimp only at hSw); go_simp; (try with_reducible rfl))
                (try simp only [Act.put, List.getElem_toArray, List.getElem_cons_succ, List.getElem_cons_zero, List.setIfInBounds_toArray, List.set_cons_zero, List.set_cons_succ])
                refine wpAnyH_take (i := 6) (oi := _) (v := ?_) rfl (by kernel_rfl) (by kernel_rfl) (by kernel_rfl) (fun _ _ _ h => h) (Or.inl ⟨by rfl, ?_⟩) hHeld ?_
                rotate_left
                · (intro w hSw; (try dsimp only at hSw); go_simp; (try with_reducible rfl))
                (try simp only [Act.put, List.getElem_toArray, List.getElem_cons_succ, List.getElem_cons_zero, List.setIfInBounds_toArray, List.set_cons_zero, List.set_cons_succ])
                refine wpAnyH_take (i := 7) (oi := _) (v := ?_) rfl (by kernel_rfl) (by kernel_rfl) (by kernel_rfl) (fun _ _ _ h => h) (Or.inl ⟨by rfl, ?_⟩) hHeld ?_
                rotate_left
                · (intro w hSw; (try dsimp only at hSw); go_simp; (try with_reducible rfl))
                (try simp only [Act.put, List.getElem_toArray, List.getElem_cons_succ, List.getElem_cons_zero, List.setIfInBounds_toArray, List.set_cons_zero, List.set_cons_succ])
                refine wpAnyH_take (i := 8) (oi := _) (v := ?_) rfl (by kernel_rfl) (by kernel_rfl) (by kernel_rfl) (fun _ _ _ h => h) (Or.inl ⟨by rfl, ?_⟩) hHeld ?_
                rotate_left
                · (intro w hSw; (try dsimp only at hSw); go_simp; (try with_reducible rfl))
                (try simp only [Act.put, List.getElem_toArray, List.getElem_cons_succ, List.getElem_cons_zero, List.setIfInBounds_toArray, List.set_cons_zero, List.set_cons_succ])
                refine wpAnyH_take (i := 9) (oi := _) (v := ?_) rfl (by kernel_rfl) (by kernel_rfl) (by kernel_rfl) (fun _ _ _ h => h) (Or.inl ⟨by rfl, ?_⟩) hHeld ?_
                rotate_left
                · (intro w hSw; (try dsimp only at hSw); go_simp; (try with_reducible rfl))
                (try simp only [Act.put, List.getElem_toArray, List.getElem_cons_succ, List.getElem_cons_zero, List.setIfInBounds_toArray, List.set_cons_zero, List.set_cons_succ])
                refine wpAnyH_take (i := 10) (oi := _) (v := ?_) rfl (by kernel_rfl) (by kernel_rfl) (by kernel_rfl) (fun _ _ _ h => h) (Or.inl ⟨by rfl, ?_⟩) hHeld ?_
                rotate_left
                · (intro w hSw; (try dsimp only at hSw); go_simp; (try with_reducible rfl))
                (try simp only [Act.put, List.getElem_toArray, List.getElem_cons_succ, List.getElem_cons_zero, List.setIfInBounds_toArray, List.set_cons_zero, List.set_cons_succ])
                refine wpAnyH_ready (rs := [5]) (by kernel_rfl) (by simp) ?_
                refine AllReadyH.cons (o := _) rfl (fun K hK => ?_) AllReadyH.nil
                go_simp
                refine hK.out _ _ ⟨c2, c3⟩ (fun hHeld => ?_)
                clear hK K
                (try simp only [Act.put, List.getElem_toArray, List.getElem_cons_succ, List.getElem_cons_zero, List.setIfInBounds_toArray, List.set_cons_zero, List.set_cons_succ])
                refine wpAnyH_ready (rs := [11]) (by kernel_rfl) (by simp) ?_
                refine AllReadyH.cons (o := _) rfl (fun K hK => ?_) AllReadyH.nil
                refine step_appA (by rfl) _ _ (by rfl) (by rfl) (B + 5) Ak nk ck (xs 3) (by rfl) OWK.out Xb n8 cb bb (by rfl) RB7.out (by omega) hz7 ?_
                intro A9 c9 w9 ho9 hg9 hp9
                obtain ⟨f1, f2, f3⟩ := HK9.out _ hg9
                have HA9 := Lib.hid (HAPP.out A9 c9 w9 ho9 hg9 hp9)
                clear ho9 hg9 hp9 hHeld
                refine hK.out _ _ ⟨f2, f3⟩ (fun hHeld => ?_)
                clear hK K
                (try simp only [Act.put, List.getElem_toArray, List.getElem_cons_succ, List.getElem_cons_zero, List.setIfInBounds_toArray, List.set_cons_zero, List.set_cons_succ])
                refine wpAnyH_take (i := 12) (oi := _) (v := ?_) rfl (by kernel_rfl) (by kernel_rfl) (by kernel_rfl) (fun _ _ _ h => h) (Or.inl ⟨by rfl, ?_⟩) hHeld ?_
                rotate_left
                · (intro w hSw; (try dsimp only at hSw); go_simp; (try with_reducible rfl))
                (try simp only [Act.put, List.getElem_toArray, List.getElem_cons_succ, List.getElem_cons_zero, List.setIfInBounds_toArray, List.set_cons_zero, List.set_cons_succ])
                refine wpAnyH_ready (rs := [13]) (by kernel_rfl) (by simp) ?_
                refine AllReadyH.cons (o := _) rfl (fun K hK => ?_) AllReadyH.nil
                go_simp
                refine hK.out _ _ ⟨(World.cell?_setCell_far _ _ _ _ hbB).trans f2, by rw [World.frozen?_setCell]; exact f3⟩ (fun hHeld => ?_)
                clear hK K hHeld
                (try simp only [Act.put, List.getElem_toArray, List.getElem_cons_succ, List.getElem_cons_zero, List.setIfInBounds_toArray, List.set_cons_zero, List.set_cons_succ])
                refine wpAnyH_done (by kernel_rfl) ?_ _
                all_goals
                  obtain ⟨Q', xs', hl', hf', ho', hs'⟩ := HA9.out
                  obtain ⟨w10, hw10⟩ : ∃ w10, w9.setCell ⟨B + 4, 3, none⟩ (.slice A9 (nk + n8) c9) = w10 := ⟨_, rfl⟩
                  rw [hw10] at ho' hs' ⊢
                  have HF := Lib.hid hf'
                  have HLN := Lib.hid hl'
                  have H10 : Hid (OwnB w10 (B + 5) A8 n8 c8 bb ∧ StR B w Q' xs' (fun k => (xs' k).map UInt8.toNat) (fun k => (Q' k).2.1) w10) := ⟨ho', hs'⟩
                  have c10 := (HC.out _ hs'.below).2.2
                  have EQ := Lib.hid (eq_s A8 Xb n8 n8 c8 cb bb bb true (by simp) w10 ho'.rb (HBS.out.below (by have := hs'.below; rw [hB]; exact this)))
                  clear hl' hf' ho' hs' HA9 HAPP HK9 OWK RB7 c1 c2 c3 f1 f2 f3 hw10
                  go_wp2_with fail
                  refine EQ.out.mono ?_
                  rintro e w11 ⟨rfl, rfl⟩
                  clear EQ
                  go_wp2_with fail
                  go_loopw [9] (fun vj wl => ∃ (j : Nat) (l8 : List UInt8), vj = .int .i64 (j : Int) ∧ j ≤ n8 ∧ Hid (OwnB wl (B + 5) A8 n8 c8 l8 ∧ StR B w Q' xs' (fun k => (xs' k).map UInt8.toNat) (fun k => (Q' k).2.1) wl)) (fun vj _ => n8 - (intOf vj).toNat)
                  case atStart => exact ⟨0, bb, rfl, Nat.zero_le _, H10.out⟩
                  case round =>
                    obtain ⟨j, l8, rfl, hj, HJ⟩ := hrel
                    clear H10
                    by_cases hjn : j < n8
                    · have j1 : (j : Int) < (n8 : Int) := by omega
                      have j2 : (0 : Int) ≤ (j : Int) := by omega
                      have e8 : IntKind.i64.wrap ((j : Int) + 1) = (j : Int) + 1 := IntWalk.i64_in _ (by omega)
                      obtain ⟨g8, rfl, hg81, hg82⟩ := HJ.out.1.shape (by omega)
                      obtain ⟨q, hq⟩ : ∃ q, l8[j]? = some q := ⟨_, List.getElem?_eq_getElem (by rw [HJ.out.1.len]; exact hjn)⟩
                      have k1 := HJ.out.1.cellAt j q hq
                      have k2 := HJ.out.1.free j
                      have HJ2 : Hid (OwnB (wr.setCell ⟨g8, j, none⟩ (.int .u8 92)) (B + 5) (some ⟨g8, 0, none⟩) n8 c8 (l8.set j 92) ∧ StR B w Q' xs' (fun k => (xs' k).map UInt8.toNat) (fun k => (Q' k).2.1) (wr.setCell ⟨g8, j, none⟩ (.int .u8 92))) := ⟨HJ.out.1.stored j 92, HJ.out.2.set hg81 (fun k hk => HF.out k hk g8 rfl) j _⟩
                      clear HJ hq
                      go_wp2
                      go_roundw
                      case rel => exact ⟨j + 1, _, by go_num, by omega, HJ2.out⟩
                      case measure => simp [intOf]; omega
                    · have j1 : ¬ (j : Int) < (n8 : Int) := by omega
                      have HN : Hid ((∀ k, k < 4 → (Q' k).2.1 ≤ 1024 * (i + 1)) ∧ StR B w Q' xs' (fun k => (xs' k).map UInt8.toNat) (fun k => (Q' k).2.1) wr) := ⟨HLN.out, HJ.out.2⟩
                      clear HJ HF HLN c10
                      go_wp2
                      go_roundw
                      case rel => exact ⟨i + 1, Q', xs', by go_num, by omega, by omega, HN.out⟩
                      case measure => simp [intOf]; omega
          · have i4 : (nb : Int) > 1024 := by omega
            have HBW : Hid (Below w.heap.size w wv) := by have := HK2.out.2.below; rw [← hB] at this; exact this
            clear HK2 HR HC HBS
            go_wp2_with fail
            refine (WK.out _).mono ?_
            rintro e w9 ⟨rfl, hb9⟩
            have HB9 := Lib.hid (kp_call HBW.out hb9)
            clear hb9
            go_wp2
            go_ret
            exact ⟨rfl, HB9.out⟩
      · have i2 : ¬ (i : Int) < 40 := by omega
        have HBW : Hid (Below w.heap.size w wr) := by have := HK.out.2.below; rw [← hB] at this; exact this
        clear HK HR
        go_wp2_with fail
        refine (WK.out _).mono ?_
        rintro e w9 ⟨rfl, hb9⟩
        have HB9 := Lib.hid (kp_call HBW.out hb9)
        clear hb9
        go_wp2
        go_ret
        exact ⟨rfl, HB9.out⟩
    · have i1 : ¬ (i : Int) < (n : Int) := by omega
      have HBW : Hid (Below w.heap.size w wr) := by have := HK.out.2.below; rw [← hB] at this; exact this
      clear HK HR
      go_wp2_with fail
      refine (WK.out _).mono ?_
      rintro e w9 ⟨rfl, hb9⟩
      have HB9 := Lib.hid (kp_call HBW.out hb9)
      clear hb9
      go_wp2
      go_ret
      exact ⟨rfl, HB9.out⟩
end Go.Proofs.Ytmbkbehccmadfaa
