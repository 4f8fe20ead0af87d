/-
  option: the document's answer of Read, a piece.
-/
import Derived.Test.YtokklcfdfjgbjaaDoorOpPa
namespace Go.Proofs.YtokklcfdfjgbjaaDoor
open Go.RowKit Go
set_option linter.unusedVariables false
set_option maxRecDepth 100000
set_option maxHeartbeats 32000000 in
theorem refRead_s0 (A : Option Addr) (n c : Nat) (bs : List UInt8) (w : World) (hR : RB w A n bs) (hc : n ≤ c) (hc2 : c ≤ 9223372036854775807) (hn : n ≤ 1000000) (hn6 : ¬ n < 6) (wl : List UInt8) (hw0 : scan (bs.drop 6) = some wl) (l : List UInt8) (hns : narrowS wl = some l) (hft : 6 + wl.length + 2 + leN (cut bs 4 2) ≤ n) (hce : c = 6 + wl.length + 2 + leN (cut bs 4 2)) :
    Calls Tryd.prog 19 #[.slice A n c] w (ReadPost w bs) := by
  have HLEN := Lib.hid hR.1
  have CE := cut_end bs
  rw [hR.1] at CE
  have HCE := Lib.hid CE
  clear CE
  have GN : Hid (∀ W (a k : Nat), RB W A n bs → isSz k = true → a ≤ 4 → k ≤ 8 → n < a + k → Calls Tryd.prog 29 #[.slice A n c, .int .i64 (a : Nat), .int .i64 (k : Nat)] W fun e w' => e = .returned (.tuple #[.int .u64 0, .int .i64 1]) ∧ Below W.heap.size W w') := fun W a k hr hk ha h8 hno => by
    have hk0 : 0 < k := by simp [isSz] at hk; omega
    exact refGet_not A n c bs a k W hr hc hc2 (by omega) (by omega) (by omega) (by omega) (by omega) (.inr (by simp [inB]; omega))
  have GO : Hid (∀ W (a k : Nat), RB W A n bs → isSz k = true → a + k ≤ n → Calls Tryd.prog 29 #[.slice A n c, .int .i64 (a : Nat), .int .i64 (k : Nat)] W fun e w' => e = .returned (.tuple #[.int .u64 (leN (cut bs a k) : Nat), .int .i64 0]) ∧ Below W.heap.size W w') := fun W a k hr hk hno => refGet_ok A n c bs a k W hr hc hc2 hk hno
  have hq6 : readQ bs = (match scan (bs.drop 6) with | none => none | some wl => match narrowS wl with | none => none | some l => if 6 + wl.length + 2 + leN (cut bs 4 2) ≤ bs.length then some (leN (cut bs 0 4), l, cut bs (6 + wl.length + 2) (leN (cut bs 4 2)), bs.drop (6 + wl.length + 2 + leN (cut bs 4 2))) else none) := by unfold readQ; rw [if_neg (by rw [HLEN.out]; omega)]; rfl
  rw [HLEN.out] at hq6
  have hm : leN (cut bs 4 2) < 65536 := by
    have := leN_lt (cut bs 4 2)
    rw [cut_len _ _ _ (by rw [HLEN.out]; omega)] at this
    exact this
  have ha : leN (cut bs 0 4) < 4294967296 := by
    have := leN_lt (cut bs 0 4)
    rw [cut_len _ _ _ (by rw [HLEN.out]; omega)] at this
    exact this
  have G4 := fun W hr => GO.out W 0 4 hr rfl (by omega)
  have G2 := fun W hr => GO.out W 4 2 hr rfl (by omega)
  generalize leN (cut bs 0 4) = av at hq6 ha G4
  generalize leN (cut bs 4 2) = mv at hq6 hm G2 hft hce
  have HQ6 := Lib.hid hq6
  have HG4 := Lib.hid G4
  have HG2 := Lib.hid G2
  have HW := Lib.hid hw0
  have HNS := Lib.hid hns
  have HFT := Lib.hid hft
  have HCE := Lib.hid hce
  clear hq6 GO GN G4 G2 hw0 hns hft hce
  go_enter Tryd.func19, Tryd.ntmps19
  go_wp2_with fail
  refine calls_named fun w0 hw0 => ?_
  have hbw0 : Below w.heap.size w w0 := below_named hw0 ((Below.refl _ _).alloc (Nat.le_refl _) _)
  have k0 := heap_named hw0 (heap_alloc_new w _)
  have hs0 := hbw0.size
  clear hw0
  refine (HG4.out w0 (hR.below hbw0)).mono ?_
  intro e w1 hw1
  obtain ⟨rfl, hb1⟩ := hw1
  have hbw1 := hbw0.trans (hb1.mono hs0)
  have hs1 := hbw1.size
  have k1 := (hb1.block _ (heap_lt k0)).trans k0
  clear hb1 k0 hbw0 hs0
  go_wp2_with fail
  refine (HG2.out w1 (hR.below hbw1)).mono ?_
  intro e w2 hw2
  obtain ⟨rfl, hb2⟩ := hw2
  have hbw2 := hbw1.trans (hb2.mono hs1)
  have hs2 := hbw2.size
  have k2 := (hb2.block _ (heap_lt k1)).trans k1
  clear hb2 k1 hbw1 hs1
  have hR2 := hR.below hbw2
  have HK := Lib.hid k2
  have HB := Lib.hid hbw2
  clear k2 hbw2 hs2
  go_wp2
  go_loop [8] (fun x => ∃ k : Nat, 6 ≤ k ∧ k ≤ n ∧ x = .int .i64 k ∧ Hid (scan (bs.drop 6) = (scan (bs.drop k)).map (cut bs 6 (k - 6) ++ ·))) (fun x => n - (intOf x).toNat)
  case atStart => exact ⟨6, Nat.le_refl _, by omega, rfl, by simp [Hid, cut]⟩
  case round =>
    obtain ⟨k, hk6, hkn, rfl, hsc⟩ := hrel
    by_cases hin : k + 1 < n
    · obtain ⟨b, off, p, rfl, hblt, hp, hcp⟩ := hR2.at_ (k := k) (by omega)
      obtain ⟨b', off', q, hA', hblt', hq, hcq⟩ := hR2.at_ (k := k + 1) (by omega)
      injection hA' with hA'
      injection hA' with hA1 hA2
      subst hA1 hA2
      have hdrop := drop_two hp hq
      have hmore := cut_two_more hk6 hp hq
      have hs := hsc.out
      rw [hdrop] at hs
      have HS := Lib.hid hs
      have HM := Lib.hid hmore
      have hpb := p.toNat_lt
      have hqb := q.toNat_lt
      rw [← Nat.add_assoc] at hcq
      have hcq2 := hcq
      rw [Nat.add_assoc] at hcq2
      clear hdrop hmore hs hp hq hsc
      have hcs : (p.toNat = 0 ∧ q.toNat = 0) ∨ (p.toNat = 0 ∧ q.toNat ≠ 0) ∨ p.toNat ≠ 0 := by omega
      rcases hcs with ⟨hp0, hq0⟩ | ⟨hp0, hq0⟩ | hp0
      · have d0 : ((p.toNat : Int) == 0) = true := beq_iff_eq.2 (by omega)
        have d1 : ((q.toNat : Int) == 0) = true := beq_iff_eq.2 (by omega)
        have hscan : scan (bs.drop 6) = some (cut bs 6 (k - 6)) := by
          rw [HS.out]
          unfold scan
          rw [if_pos ⟨hp0, hq0⟩]
          simp
        have hwe : wl = cut bs 6 (k - 6) := by
          have h9 := HW.out.symm.trans hscan
          injection h9
        subst hwe
        have hwl : (cut bs 6 (k - 6)).length = k - 6 := cut_len bs 6 (k - 6) (by rw [HLEN.out]; omega)
        have hq7 : readQ bs = (match narrowS (cut bs 6 (k - 6)) with | none => none | some l => if k + 2 + mv ≤ n then some (av, l, cut bs (k + 2) mv, bs.drop (k + 2 + mv)) else none) := by
          rw [HQ6.out, hscan]
          simp only
          rw [hwl, show 6 + (k - 6) + 2 = k + 2 by omega]
        have hft := HFT.out
        rw [hwl, show 6 + (k - 6) + 2 = k + 2 by omega] at hft
        have hce := HCE.out
        rw [hwl, show 6 + (k - 6) + 2 = k + 2 by omega] at hce
        have HCE2 := Lib.hid hce
        clear HCE hce
        have HQ7 := Lib.hid hq7
        have hrd : RB w2 ((some ⟨b, off, none⟩ : Option Addr).map (·.add 6)) (k - 6) (cut bs 6 (k - 6)) := ⟨hwl, (hR2.2.drop_ 6).take_ (k - 6)⟩
        have NR := Lib.hid (fun c' => refNarrow_any _ (k - 6) c' _ w2 hrd (by omega))
        clear hq7 hscan hwl hrd HS HM
        go_wp2_with fail
        refine (NR.out _).mono ?_
        intro e w3 hw3
        unfold NarrowPost at hw3
        rw [HNS.out] at hw3
        obtain ⟨hw3, hb3⟩ := hw3
        have hbw3 := HB.out.trans (hb3.mono HB.out.size)
        have k3 := (hb3.block _ (heap_lt HK.out)).trans HK.out
        have hR3 := hR.below hbw3
        have hs3 := hbw3.size
        clear hb3 NR
        subst hw3
        have hq7 : readQ bs = some (av, l, cut bs (k + 2) mv, bs.drop (k + 2 + mv)) := by rw [HQ7.out, HNS.out]; simp only; rw [if_pos hft]
        have HQ := Lib.hid hq7
        clear hq7
        have CO := Lib.hid (refCut_ok _ n c bs (k + 2) mv w3 hR3 hc hc2 hft (by omega))
        go_wp2_with fail
        refine CO.out.mono ?_
        rintro e w4 ⟨A4, n4, c4, rfl, hown4, hb4⟩
        have hbw4 := hbw3.trans (hb4.mono hs3)
        have k4 := (hb4.block _ (heap_lt k3)).trans k3
        have hR4 := hR.below hbw4
        have hs4 := hbw4.size
        have hown4' := hown4.lower (base' := w.heap.size) hs3
        have hlt4 := heap_lt k3
        have h34 : ∀ g, blk A4 = some g → w3.heap.size ≤ g := fun g e => (hown4.blk_lt e).1
        clear hown4 hb4 k3 hbw3 hR3 CO
        have hrd : RB w4 ((some ⟨b, off, none⟩ : Option Addr).map (·.add (k + 2 + mv))) (n - (k + 2 + mv)) (bs.drop (k + 2 + mv)) := ⟨by rw [List.length_drop, HLEN.out], (hR4.2.drop_ (k + 2 + mv))⟩
        have CP := Lib.hid (fun A' c' (h : RB w4 A' (n - (k + 2 + mv)) (bs.drop (k + 2 + mv))) => copy_any A' (n - (k + 2 + mv)) c' _ w4 h (by omega))
        have HRD := Lib.hid hrd
        have H34 := Lib.hid h34
        have HO4 := Lib.hid hown4'
        have HK4 := Lib.hid k4
        have HBW4 := Lib.hid hbw4
        clear hrd h34 hown4' k4 hbw4 hR4
        have hce := HCE2.out
        clear HCE2
        subst hce
        have HD : Hid (bs.drop (k + 2 + mv) = []) := List.drop_eq_nil_of_le (by rw [HLEN.out]; omega)
        go_wp2_with fail
        refine (copy_any (some ⟨b, off, none⟩) 0 0 [] w4 (RB.nil _ _) (by omega)).mono ?_
        rintro e w5 ⟨A5, n5, c5, rfl, hown5, hb5⟩
        rw [← HD.out] at hown5
        have hk5 := (hb5.block _ (heap_lt HK4.out)).trans HK4.out
        have hbw5 := HBW4.out.trans (hb5.mono HBW4.out.size)
        have hown45 := HO4.out.below hb5 (Nat.le_refl _)
        have hfar : blk A4 = none ∨ blk A4 ≠ blk A5 := by
          rcases hA : blk A4 with _ | g
          · exact .inl rfl
          · refine .inr (fun e => ?_)
            have h7 := (HO4.out.blk_lt hA).2
            have h8 := (hown5.blk_lt e.symm).1
            omega
        have hG4 := grown4 w5 w.heap.size (.int .u32 (av : Int)) (.string (strOf l)) (.slice A4 n4 c4) (.slice A5 n5 c5)
        have hf4 := hown45.kept hG4 (by
          rcases hA : blk A4 with _ | g
          · exact .inl rfl
          · exact .inr (fun e => by have h7 : w3.heap.size ≤ g := H34.out g hA; injection e with e; omega))
        have hlt5 := heap_lt HK4.out
        have hf5 := (hown5.kept hG4 (by
          rcases hA : blk A5 with _ | g
          · exact .inl rfl
          · exact .inr (fun e => by have h7 := (hown5.blk_lt hA).1; injection e with e; omega))).lower (base' := w.heap.size) hs4
        have HF : Hid (ReadPost w bs (.returned (.tuple #[.agg #[.int .u32 (av : Int), .string (strOf l), .slice A4 n4 c4, .slice A5 n5 c5], .int .i64 0])) ((((w5.setCell ⟨w.heap.size, 0, none⟩ (.int .u32 (av : Int))).setCell ⟨w.heap.size, 1, none⟩ (.string (strOf l))).setCell ⟨w.heap.size, 2, none⟩ (.slice A4 n4 c4)).setCell ⟨w.heap.size, 3, none⟩ (.slice A5 n5 c5))) := by
          simp only [Hid, ReadPost, HQ.out]
          exact ⟨A4, n4, c4, A5, n5, c5, rfl, hf4, hf5, hfar, below4 hbw5 (Nat.le_refl _)⟩
        obtain ⟨a0, a1, a2, a3⟩ := cells4 hk5
        obtain ⟨f0, f1, f2, f3⟩ := free4 hk5
        have HZ := Lib.hid hk5
        clear hk5 hbw5 hown45 hfar hG4 hf4 hf5 hown5 hb5
        go_wp2
        refine bodyPost_ret (results_op rfl _ _ rfl (set4 HZ.out)) rfl ?_
        exact HF.out
      · have d0 : ((p.toNat : Int) == 0) = true := beq_iff_eq.2 (by omega)
        have d1 : ((q.toNat : Int) == 0) = false := beq_eq_false_iff_ne.2 (by omega)
        have hscan : scan (bs.drop 6) = (scan (bs.drop (k + 2))).map (cut bs 6 (k + 2 - 6) ++ ·) := by
          rw [HS.out, ← HM.out]
          conv => lhs; unfold scan
          rw [if_neg (by omega), Option.map_map]
          congr 1
          funext z
          simp
        have HSN := Lib.hid hscan
        clear hscan
        go_wp2
        go_round
        case rel => exact ⟨k + 2, by omega, by omega, by go_num, HSN⟩
        case measure => simp [intOf]; omega
      · have d0 : ((p.toNat : Int) == 0) = false := beq_eq_false_iff_ne.2 (by omega)
        have hscan : scan (bs.drop 6) = (scan (bs.drop (k + 2))).map (cut bs 6 (k + 2 - 6) ++ ·) := by
          rw [HS.out, ← HM.out]
          conv => lhs; unfold scan
          rw [if_neg (by omega), Option.map_map]
          congr 1
          funext z
          simp
        have HSN := Lib.hid hscan
        clear hscan
        go_wp2
        go_round
        case rel => exact ⟨k + 2, by omega, by omega, by go_num, HSN⟩
        case measure => simp [intOf]; omega
    · have hsn : scan (bs.drop 6) = none := by
        rw [hsc.out, scan_end (by rw [List.length_drop, HLEN.out]; omega)]; rfl
      exact absurd (HW.out.symm.trans hsn) (by simp)
end Go.Proofs.YtokklcfdfjgbjaaDoor
