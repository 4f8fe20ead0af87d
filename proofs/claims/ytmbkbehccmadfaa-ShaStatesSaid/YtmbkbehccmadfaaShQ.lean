/-
  sha: Write.
-/
import Derived.Test.YtmbkbehccmadfaaShQ1
import Derived.Deep.QuietTactic
import Derived.BigQuiet
import Derived.BigRegion
import Derived.Laws.Tables
import Derived.Laws.CopyOwn
import Derived.Deep.Cut
import Derived.Deep.CutRange
import Derived.Deep.DeepCutAuto
import Derived.Deep.LoopGhost
import Derived.Deep.RegionWith
namespace Go.Proofs.Ytmbkbehccmadfaa
open Go.RowKit Go
set_option linter.unusedVariables false
set_option linter.unusedSimpArgs false
set_option maxRecDepth 100000
set_option maxHeartbeats 4000000 in
theorem write_any (S : Nat) (A : Option Addr) (n c : Nat) (p : List Nat) (total : Nat) (bs : List UInt8) (w : World) (hH : Holds w S p total) (hs : Src w S A bs) (hn : bs.length = n) (hn1 : n ≤ 1000000000) (hnc : n ≤ c) (hc1 : c ≤ 9223372036854775807) (ht : total < 18446744073709551616) :
    Calls Try.prog 20 #[.pointer (some ⟨S, 0, none⟩), .slice A n c] w fun e w' => e = .returned (.tuple #[]) ∧ OpenSt w' S (p ++ bs.map UInt8.toNat) ((total + n) % 18446744073709551616) ∧ w.grownBy w' (some S) := by
  have FW := Lib.hid (fun W => firstWords_any W)
  rw [H0_eq] at FW
  obtain ⟨ds, hds⟩ : ∃ ds, (H0v.list.map v32).toArray = ds := ⟨_, rfl⟩
  rw [hds] at FW
  have hdl : ds.toList = H0v.list.map v32 := by rw [← hds]
  have hone : ds.all (·.oneCell') = true := by rw [← hds]; exact all32 _
  have hsz : ds.size = 8 := by rw [← hds]; rfl
  have hif : (Try.prog.info? 34).map (·.size) = some ds.size := by rw [hsz]; exact size_words
  have DS := Lib.hid (show _ ∧ _ ∧ _ ∧ _ from ⟨hdl, hone, hsz, hif⟩)
  clear hds hdl hone hsz hif
  have HSRC := Lib.hid hs
  have B1 : bs.length = n := hn
  obtain ⟨bg, HB⟩ : ∃ bg, Hid ((bg = true ∧ OpenSt w S p total) ∨ (bg = false ∧ p = [] ∧ ∃ u rb, ArrIs w S 39 (stCells u rb 0 total false) ∧ rb.length = 64 ∧ ∀ x ∈ rb, x < 256)) := by
    rcases hH with h | h
    · exact ⟨true, Or.inl ⟨rfl, h⟩⟩
    · exact ⟨false, Or.inr ⟨rfl, h⟩⟩
  have c4 : w.cell? ⟨S, 74, none⟩ = some (.bool bg) := by
    rcases HB.out with ⟨rfl, rb, hA, hr, hb, htk⟩ | ⟨rfl, rfl, u, rb, hA, hr, hb⟩
    · exact st_at hA hr 2 (.bool true) rfl
    · exact st_at hA hr 2 (.bool false) rfl
  clear hH hs
  obtain ⟨t', ht'⟩ : ∃ t', (total + n) % 18446744073709551616 = t' := ⟨_, rfl⟩
  rw [ht']
  have HT := Lib.hid ht'
  clear ht'
  go_enter Try.func20, Try.ntmps20
  go_upto_if 12 with (fail)
  go_cut [12] (fun s12 wx => OpenSt wx S p total ∧ w.grownBy wx (some S))
  case first => as_aux_lemma =>
    rcases HB.out with ⟨rfl, ho⟩ | ⟨rfl, rfl, u, rb, hA, hr, hb⟩
    · have HO := Lib.hid ho
      clear ho HB FW
      go_wp2_with fail
      go_meet
      exact ⟨HO.out, grown_of_below (Below.refl _ _) (Nat.le_refl _) _⟩
    · have HA := Lib.hid hA
      have HR := Lib.hid (And.intro hr hb)
      clear hA hr hb HB
      go_wp2_with fail
      refine (FW.out _).mono ?_
      rintro e w2 ⟨rfl, hb2⟩
      obtain ⟨d1, d2, d3, d4⟩ := DS.out
      have A2 := ArrIs.below HA.out hb2
      have TH : Hid (w2.there S 0 ds.size) := A2.there 0 _ (by rw [d3]; have h7 : u.list.length = 8 := rfl; simp [stCells]; omega)
      have A3 : ArrIs (w2.setCells S 0 ds.toList) S 39 (stCells H0v rb 0 total false) := by rw [d1]; exact st_setSum A2 H0v
      have c5 := st_at A3 HR.out.1 2 (.bool false) rfl
      have f5 := A3.free 74
      have A4 := st_setBegun A3 HR.out.1 true
      have HO : Hid (OpenSt ((w2.setCells S 0 ds.toList).setCell ⟨S, 74, none⟩ (.bool true)) S [] total) := ⟨rb, A4, HR.out.1, HR.out.2, rfl⟩
      have HG : Hid (w.grownBy ((w2.setCells S 0 ds.toList).setCell ⟨S, 74, none⟩ (.bool true)) (some S)) := grown_tr (grown_cells S _ 0 _ (grown_of_below hb2 (Nat.le_refl _) _)) (grown_one _ _ _ _)
      have D := Lib.hid (And.intro d4 d2)
      clear d1 d2 d3 d4 A2 A3 A4 hb2 HA FW DS
      obtain ⟨w3, hw3⟩ : ∃ w3, w2.setCells S 0 ds.toList = w3 := ⟨_, rfl⟩
      have HW3 := Lib.hid hw3
      rw [hw3] at c5 f5 HO HG
      clear hw3
      go_wp2_with (refine wpList_store_mid rfl _ _ _ rfl S 0 ds rfl rfl TH.out D.out.1 D.out.2 ?_; rw [HW3.out])
      go_meet
      exact ⟨HO.out, HG.out⟩
  case rest => as_aux_lemma =>
    obtain ⟨ho, hg⟩ := hcut
    have HG := Lib.hid hg
    have hs1 := Lib.hid (HSRC.out.kept hg)
    obtain ⟨rb, f, u, hf, hu, hf64, hA, hr, hb, htk⟩ := ho.opens
    have HO := Lib.hid ho
    clear hg ho HSRC HB c4 FW DS
    have ht' := HT.out
    have c5 := st_at hA hr 1 (.int .u64 (total : Int)) rfl
    have f5 := hA.free 73
    have A4 := st_setTotal hA hr t'
    have e1 : IntKind.u64.wrap (n : Int) = (n : Int) := by rw [IntKind.wrap_u64]; omega
    have e2 : IntKind.u64.wrap ((total : Int) + (n : Int)) = (t' : Int) := by rw [IntKind.wrap_u64]; omega
    have e3 : IntKind.i64.wrap ((f : Int) + (n : Int)) = (f : Int) + (n : Int) := IntWalk.i64_in _ (by omega)
    have e4 : ((total : Int) + (n : Int)) % 18446744073709551616 = (t' : Int) := by omega
    clear ht'
    by_cases hsm : (f : Int) + (n : Int) < 64
    · have O4 : Hid (OpenSt (wc.setCell ⟨S, 73, none⟩ (.int .u64 (t' : Int))) S p t') := ⟨rb, by rw [hu, hf]; exact A4, hr, hb, by rw [hf]; exact htk⟩
      have G4 : Hid (w.grownBy (wc.setCell ⟨S, 73, none⟩ (.int .u64 (t' : Int))) (some S)) := grown_tr HG.out (grown_one _ _ _ _)
      have hs4 : Hid (Src (wc.setCell ⟨S, 73, none⟩ (.int .u64 (t' : Int))) S A bs) := hs1.out.kept (grown_one _ _ _ _)
      have c6 := st_at A4 hr 0 (.int .i64 (f : Int)) rfl
      have H4 := Lib.hid (show _ ∧ _ ∧ _ ∧ _ ∧ _ ∧ _ from ⟨hf, hu, A4, hr, hb, htk⟩)
      clear hf hu A4 hr hb htk hA HG HO hs1
      go_wp2_with fail
      obtain ⟨w4, hw4⟩ : ∃ w4, wc.setCell ⟨S, 73, none⟩ (.int .u64 (t' : Int)) = w4 := ⟨_, rfl⟩
      rw [hw4] at c6 O4 G4 hs4 H4 ⊢
      clear hw4 c5 f5 e1 e2 e4
      have i1 : 0 ≤ (f : Int) := by omega
      have i2 : (f : Int) ≤ 64 := by omega
      have i3 : ¬ 64 = f := by omega
      have hW : ∃ wc, (Builtin.copy_ #[22, 22] 3 #[.slice (some ⟨S, 8 + f, none⟩) (64 - f) (64 - f), .slice A n c]).run Try.prog w4.drew = .ok (.int .i64 (n : Int)) wc ∧ wc.cell? ⟨S, 72, none⟩ = some (.int .i64 (f : Int)) ∧ wc.frozen? ⟨S, 72, none⟩ = false ∧
          OpenSt (wc.setCell ⟨S, 72, none⟩ (.int .i64 ((f : Int) + (n : Int)))) S (p ++ bs.map UInt8.toNat) t' ∧ w.grownBy (wc.setCell ⟨S, 72, none⟩ (.int .i64 ((f : Int) + (n : Int)))) (some S) := by
        obtain ⟨g1, g2, g3, g4, g5, g6⟩ := H4.out
        have hr1 := run_cpy_part w4.drew S (8 + f) (64 - f) (64 - f) n c A bs 39 _ g3.drew (by have h7 : u.list.length = 8 := rfl; simp [stCells]; omega) hs4.out B1 3
        rw [List.take_of_length_le (by omega), show min n (64 - f) = n by omega] at hr1
        have hl : (bs.map UInt8.toNat).length = n := by simp [B1]
        have h5 := st_setRest (w := w4.drew) g3.drew f (bs.map UInt8.toNat) (by omega)
        have h6 := open_part (w := w4.drew) (cs := bs.map UInt8.toNat) g1 g2 g3.drew g4 g5 g6 (bytes_lt _) (by omega)
        rw [hl] at h6
        refine ⟨_, hr1, st_at h5 (by simp; omega) 0 _ rfl, h5.free _, h6, grown_tr (grown_cells S _ _ _ (grown_tr G4.out (grown_of_below (Below.refl _ _).drew (Nat.le_refl _) _))) (grown_one _ _ _ _)⟩
      obtain ⟨wc, hcp, c7, f7, O7, G7⟩ := hW
      have O7 := Lib.hid O7
      have G7 := Lib.hid G7
      clear H4 hs4
      go_region
      all_goals
        go_wp2
        refine bodyPost_ret (results_none rfl _ _ _) rfl ?_
        exact ⟨rfl, O7.out, G7.out⟩
    · have O4 : Hid (OpenSt (wc.setCell ⟨S, 73, none⟩ (.int .u64 (t' : Int))) S p t') := ⟨rb, by rw [hu, hf]; exact A4, hr, hb, by rw [hf]; exact htk⟩
      have G4 : Hid (w.grownBy (wc.setCell ⟨S, 73, none⟩ (.int .u64 (t' : Int))) (some S)) := grown_tr HG.out (grown_one _ _ _ _)
      have hs4 : Hid (Src (wc.setCell ⟨S, 73, none⟩ (.int .u64 (t' : Int))) S A bs) := hs1.out.kept (grown_one _ _ _ _)
      have c6 := st_at A4 hr 0 (.int .i64 (f : Int)) rfl
      obtain ⟨ks, hks⟩ : ∃ ks, (K0.map v32).toArray = ks := ⟨_, rfl⟩
      have hkl : ks.toList = K0.map v32 := by rw [← hks]
      have hkone : ks.all (·.oneCell') = true := by rw [← hks]; exact all32 _
      have hksz : ks.size = 64 := by rw [← hks]; simp [K0_len]
      have hkif : (Try.prog.info? 59).map (·.size) = some ks.size := by rw [hksz]; exact size_k64
      have KA := Lib.hid (fun W => constants_any W)
      rw [hks] at KA
      have KS := Lib.hid (show _ ∧ _ ∧ _ ∧ _ from ⟨hkl, hkone, hksz, hkif⟩)
      clear hf hu A4 hr hb htk hA HG HO hs1 hks hkl hkone hksz hkif
      go_wp2_with fail
      obtain ⟨w4, hw4⟩ : ∃ w4, wc.setCell ⟨S, 73, none⟩ (.int .u64 (t' : Int)) = w4 := ⟨_, rfl⟩
      rw [hw4] at c6 O4 G4 hs4 ⊢
      clear hw4 c5 f5 e1 e2 e4 e3
      refine (KA.out _).mono ?_
      rintro e w5 ⟨rfl, hb5⟩
      have O5 := Lib.hid (show OpenSt w5 S p t' from by obtain ⟨rb, h1, h2⟩ := O4.out; exact ⟨rb, h1.below hb5, h2⟩)
      have G5 := Lib.hid (grown_tr G4.out (grown_of_below hb5 (Nat.le_refl _) (some S)))
      have S5 := Lib.hid (hs4.out.kept (grown_of_below hb5 (Nat.le_refl _) (some S)))
      have hS5 : S < w5.heap.size := by obtain ⟨rb, h1, h2⟩ := O5.out; exact h1.lt
      clear KA hb5 O4 G4 hs4 c6
      go_wp2_with (refine wpList_store_row rfl _ _ _ rfl w5.heap.size ks rfl rfl _ _ (has_new w5 _) KS.out.2.2.2 (by rw [KS.out.2.2.1]; rfl) KS.out.2.1 ?_)
      refine wp_nm fun W2 hW2 => ?_
      obtain ⟨G, hG⟩ : ∃ G, w5.heap.size = G := ⟨_, rfl⟩
      have hb2 : Below w5.heap.size w5 W2 := by rw [← hW2]; exact below_setRow (kp_alloc (Below.refl _ _) _) (Nat.le_refl _) _
      have k2 : ArrIs W2 G 59 (K0.map v32) := by
        rw [← hW2, ← hG]
        unfold ArrIs
        rw [setRow_heap _ w5.heap.size _ _ _ _ (has_new w5 _), ← KS.out.1]
      have HL0 : Hid (OpenSt W2 S p t' ∧ Src W2 S A bs ∧ w.grownBy W2 (some S) ∧ ArrIs W2 G 59 (K0.map v32)) :=
        ⟨by obtain ⟨rb, h1, h2⟩ := O5.out; exact ⟨rb, h1.below hb2, h2⟩, S5.out.kept (grown_of_below hb2 (Nat.le_refl _) _), grown_tr G5.out (grown_of_below hb2 (Nat.le_refl _) _), k2⟩
      have hGS : S < G := by omega
      clear hW2 hb2 k2 O5 G5 S5 hS5
      rw [hG]
      clear hG
      simp only [Act.put]
      go_loopw [1, 5] (fun vb vn wl => ∃ (q r : List UInt8) (A' : Option Addr) (m c' : Nat), vb = .slice A' m c' ∧ m ≤ n ∧ m ≤ c' ∧ c' ≤ 9223372036854775807 ∧ Hid (r.length = m ∧ q ++ r = bs ∧ OpenSt wl S (p ++ q.map UInt8.toNat) t' ∧ Src wl S A' r ∧ w.grownBy wl (some S) ∧ ArrIs wl G 59 (K0.map v32))) (fun vb _ _ => slLen vb)
      case atStart => exact ⟨[], bs, A, n, c, rfl, Nat.le_refl _, hnc, hc1, B1, rfl, by simpa using HL0.out.1, HL0.out.2⟩
      case round =>
        obtain ⟨q, r, A', m, c', rfl, hmn, hmc, hcc, HL⟩ := hrel
        clear HL0
        by_cases h0 : m = 0
        · have i1 : ¬ (m : Int) > 0 := by omega
          have i2 : ¬ 0 < (m : Int) := by omega
          have HR : Hid (r = []) := List.eq_nil_of_length_eq_zero (by rw [HL.out.1, h0])
          clear h0
          go_wp2
          go_end0
          obtain ⟨l1, l2, l3, l4, l5, l6⟩ := HL.out
          rw [HR.out, List.append_nil] at l2
          exact ⟨rfl, by rw [← l2]; exact l3, l5⟩
        · obtain ⟨l1, l2, l3, l4, l5, l6⟩ := HL.out
          obtain ⟨rb, f2, u, hf, hu, hf64, hA, hr, hb, htk⟩ := l3.opens
          obtain ⟨b, off, rfl, hbS, hbl, hcell⟩ := l4 (by intro e; rw [e] at l1; simp at l1; omega)
          obtain ⟨k, hk⟩ : ∃ k, min m (64 - f2) = k := ⟨_, rfl⟩
          obtain ⟨SA, hSA⟩ : ∃ SA : Option Addr, (if c' = k then some ⟨b, off, none⟩ else some ⟨b, off + k, none⟩) = SA := ⟨_, rfl⟩
          have hsrc : Src wr S SA (r.drop k) := by rw [← hSA]; exact src_cut l4 l1 c' hmc
          have hcp := run_cpy_part wr.drew S (8 + f2) (64 - f2) (64 - f2) m c' (some ⟨b, off, none⟩) r 39 _ hA.drew (by have h7 : u.list.length = 8 := rfl; simp [stCells]; omega) l4 l1 3
          rw [take_min r m (64 - f2) k l1 hk.symm, hk] at hcp
          obtain ⟨cs, hcs⟩ : ∃ cs, (r.take k).map UInt8.toNat = cs := ⟨_, rfl⟩
          have hcl : cs.length = k := by rw [← hcs, List.length_map, List.length_take]; omega
          have hcb : ∀ x ∈ cs, x < 256 := by rw [← hcs]; exact bytes_lt _
          rw [hcs] at hcp
          have hq1 : p ++ (q ++ r.take k).map UInt8.toNat = (p ++ q.map UInt8.toNat) ++ cs := by rw [List.map_append, ← List.append_assoc, hcs]
          have hq2 : (q ++ r.take k) ++ r.drop k = bs := by rw [List.append_assoc, List.take_append_drop, l2]
          have hq3 : (r.drop k).length = m - k := by rw [List.length_drop, l1]
          have h5 := st_setRest (w := wr.drew) hA.drew f2 cs (by omega)
          have g7 : w.grownBy ((wr.drew.setCells S (8 + f2) (cs.map v8)).setCell ⟨S, 72, none⟩ (.int .i64 ((f2 : Int) + (k : Int)))) (some S) := grown_tr (grown_cells S _ _ _ (grown_tr l5 (grown_of_below (Below.refl _ _).drew (Nat.le_refl _) _))) (grown_one _ _ _ _)
          have g8 : wr.grownBy ((wr.drew.setCells S (8 + f2) (cs.map v8)).setCell ⟨S, 72, none⟩ (.int .i64 ((f2 : Int) + (k : Int)))) (some S) := grown_tr (grown_cells S _ _ _ (grown_of_below (Below.refl _ _).drew (Nat.le_refl _) _)) (grown_one _ _ _ _)
          have a7 : ArrIs ((wr.drew.setCells S (8 + f2) (cs.map v8)).setCell ⟨S, 72, none⟩ (.int .i64 ((f2 : Int) + (k : Int)))) G 59 (K0.map v32) := (ArrIs.farCells (by omega) _ _ _ l6.drew).far (by omega)
          have s7 := hsrc.kept g8
          have c7 := st_at h5 (by simp; omega) 0 _ rfl
          have f7 := h5.free 72
          have HC6 := Lib.hid (st_at hA hr 0 _ rfl)
          have i1 : (m : Int) > 0 := by omega
          have i2 : 0 < (m : Int) := by omega
          have i3 : 0 ≤ (f2 : Int) := by omega
          have i4 : (f2 : Int) ≤ 64 := by omega
          have i5 : ¬ 64 = f2 := by omega
          have i6 : (k : Int) ≤ (m : Int) := by omega
          have i7 : k ≤ m := by omega
          have i8 : 0 ≤ (k : Int) := by omega
          have i9 : 0 < k := by omega
          have e3 : IntKind.i64.wrap ((f2 : Int) + (k : Int)) = (f2 : Int) + (k : Int) := IntWalk.i64_in _ (by omega)
          by_cases hfl : f2 + k = 64
          · obtain ⟨rb2, hA2, hr2, hb2, huk, hO2⟩ := open_full (w := wr.drew) (cs := cs) hf hu hA.drew hr hb htk hcb (by omega)
            have hfl2 : (f2 : Int) + (k : Int) = 64 := by omega
            rw [← hfl2] at hA2
            obtain ⟨wk, hwk⟩ : ∃ wk, wr.drew.setCells S (8 + f2) (cs.map v8) = wk := ⟨_, rfl⟩
            rw [hwk] at hcp c7 f7 hA2 g7 a7 s7
            obtain ⟨w8, hw8⟩ : ∃ w8, wk.setCell ⟨S, 72, none⟩ (.int .i64 ((f2 : Int) + (k : Int))) = w8 := ⟨_, rfl⟩
            rw [hw8] at hA2 g7 a7 s7
            have W8 := Lib.hid hw8
            have t1 : ((f2 : Int) + (k : Int) == 64) = true := by rw [hfl2]; rfl
            have c8 := st_at hA2 hr2 0 _ rfl
            have HN : Hid (ArrIs w8 S 39 (stCells u rb2 64 t' true) ∧ rb2.length = 64 ∧ (∀ x ∈ rb2, x < 256) ∧ u.Ok ∧ (∀ w', ArrIs w' S 39 (stCells (blockW u K0 rb2) rb2 0 t' true) → OpenSt w' S (p ++ (q ++ r.take k).map UInt8.toNat) t')) := ⟨hA2, hr2, hb2, huk, fun w' h => by rw [hq1]; exact hO2 w' h⟩
            have HM : Hid ((r.drop k).length = m - k ∧ (q ++ r.take k) ++ r.drop k = bs ∧ Src w8 S SA (r.drop k) ∧ w.grownBy w8 (some S) ∧ ArrIs w8 G 59 (K0.map v32)) := ⟨hq3, hq2, s7, g7, a7⟩
            have c6 := HC6.out
            clear hwk hw8 h5 g7 g8 a7 s7 hq1 hq2 hq3 hcl hcb hcs hsrc HL l1 l2 l3 l4 l5 l6 hf hu hA hr hb htk hcell hk hfl HC6 hfl2 hA2 hr2 hb2 huk hO2
            go_wp2_with fail
            go_region
            go_upto_region 12 with (fail)
            rw [W8.out]
            obtain ⟨us, hus⟩ : ∃ us, (u.list.map v32).toArray = us := ⟨_, rfl⟩
            obtain ⟨rs, hrs⟩ : ∃ rs, (rb2.map v8).toArray = rs := ⟨_, rfl⟩
            obtain ⟨k2, hk2⟩ : ∃ k2, (K0.map v32).toArray = k2 := ⟨_, rfl⟩
            obtain ⟨vs, hvs⟩ : ∃ vs, ((blockW u K0 rb2).list.map v32).toArray = vs := ⟨_, rfl⟩
            have ul : us.toList = u.list.map v32 := by rw [← hus]
            have rl : rs.toList = rb2.map v8 := by rw [← hrs]
            have kl : k2.toList = K0.map v32 := by rw [← hk2]
            have rg1 : w8.drew.rangeAt S 0 us.toList := by rw [ul]; exact st_sum HN.out.1.drew
            have rg2 : w8.drew.rangeAt S 8 rs.toList := by rw [rl]; exact st_rest HN.out.1.drew
            have rg3 : w8.drew.rangeAt G 0 k2.toList := by
              rw [kl]
              refine ArrIs.rangeAt (t := 59) (pre := []) (post := []) ?_
              simpa using HM.out.2.2.2.2.drew
            have si1 : (Try.prog.info? 34).map (·.size) = some us.toList.length := by rw [ul]; exact size_words
            have si2 : (Try.prog.info? 36).map (·.size) = some rs.toList.length := by rw [rl, List.length_map, HN.out.2.1]; exact size_block
            have si3 : (Try.prog.info? 59).map (·.size) = some k2.toList.length := by rw [kl, List.length_map, K0_len]; exact size_k64
            have RG := Lib.hid (show _ ∧ _ ∧ _ ∧ _ ∧ _ ∧ _ from ⟨rg1, rg2, rg3, si2, si3, si1⟩)
            clear rg1 rg2 rg3 si1 si2 si3 ul rl kl
            have CS := Lib.hid (step_K0 u rb2 HN.out.2.2.2.1 HN.out.2.1 HN.out.2.2.1)
            rw [hus, hrs, hk2, hvs] at CS
            have HV := Lib.hid (show vs.toList = (blockW u K0 rb2).list.map v32 ∧ vs.size = 8 ∧ vs.all (·.oneCell') = true from ⟨by rw [← hvs], by rw [← hvs]; rfl, by rw [← hvs]; exact all32 _⟩)
            clear hvs hus hrs hk2
            refine wp_region_any (by kernel_rfl) ?_
            change wpAny _ _ _ _ _ _ _ (World.drew _)
            refine wpAny_take (i := 0) (oi := _) (v := ?_) rfl (by kernel_rfl) (by kernel_rfl) (by kernel_rfl) (fun _ _ _ h => h) (Or.inl ⟨by rfl, ?_⟩) ?_
            rotate_left
            · (intro w; go_simp; (try with_reducible rfl))
            simp only [Act.put, List.getElem_toArray, List.getElem_cons_succ, List.getElem_cons_zero, List.setIfInBounds_toArray, List.set_cons_zero, List.set_cons_succ]
            refine wpAny_take (i := 1) (oi := _) (v := ?_) rfl (by kernel_rfl) (by kernel_rfl) (by kernel_rfl) (fun _ _ _ h => h) (Or.inl ⟨by rfl, ?_⟩) ?_
            rotate_left
            · (intro w; go_simp; (try with_reducible rfl))
            simp only [Act.put, List.getElem_toArray, List.getElem_cons_succ, List.getElem_cons_zero, List.setIfInBounds_toArray, List.set_cons_zero, List.set_cons_succ]
            refine wpAny_take (i := 2) (oi := _) (v := ?_) rfl (by kernel_rfl) (by kernel_rfl) (by kernel_rfl) (fun _ _ _ h => h) (Or.inl ⟨by rfl, ?_⟩) ?_
            rotate_left
            · (intro w; go_simp; (try with_reducible rfl))
            simp only [Act.put, List.getElem_toArray, List.getElem_cons_succ, List.getElem_cons_zero, List.setIfInBounds_toArray, List.set_cons_zero, List.set_cons_succ]
            refine wpAny_take (i := 3) (oi := _) (v := ?_) rfl (by kernel_rfl) (by kernel_rfl) (by kernel_rfl) (fun _ _ _ h => h) (Or.inl ⟨by rfl, ?_⟩) ?_
            rotate_left
            · (intro w; go_simp; (try with_reducible rfl))
            simp only [Act.put, List.getElem_toArray, List.getElem_cons_succ, List.getElem_cons_zero, List.setIfInBounds_toArray, List.set_cons_zero, List.set_cons_succ]
            refine wpAny_take (i := 4) (oi := _) (v := ?_) rfl (by kernel_rfl) (by kernel_rfl) (by kernel_rfl) (fun _ _ _ h => h) (Or.inl ⟨by rfl, ?_⟩) ?_
            rotate_left
            · (intro w; go_simp; (try with_reducible rfl))
            simp only [Act.put, List.getElem_toArray, List.getElem_cons_succ, List.getElem_cons_zero, List.setIfInBounds_toArray, List.set_cons_zero, List.set_cons_succ]
            refine wpAny_take (i := 6) (oi := _) (v := ?_) rfl (by kernel_rfl) (by kernel_rfl) (by kernel_rfl) (fun _ _ _ h => h) (Or.inl ⟨by rfl, ?_⟩) ?_
            rotate_left
            · (intro w; go_simp; (try with_reducible rfl))
            simp only [Act.put, List.getElem_toArray, List.getElem_cons_succ, List.getElem_cons_zero, List.setIfInBounds_toArray, List.set_cons_zero, List.set_cons_succ]
            refine wpAny_take (i := 7) (oi := _) (v := ?_) rfl (by kernel_rfl) (by kernel_rfl) (by kernel_rfl) (fun _ _ _ h => h) (Or.inl ⟨by rfl, ?_⟩) ?_
            rotate_left
            · (intro w; go_simp; (try with_reducible rfl))
            simp only [Act.put, List.getElem_toArray, List.getElem_cons_succ, List.getElem_cons_zero, List.setIfInBounds_toArray, List.set_cons_zero, List.set_cons_succ]
            refine wpAny_take (i := 8) (oi := _) (v := ?_) rfl (by kernel_rfl) (by kernel_rfl) (by kernel_rfl) (fun _ _ _ h => h) (Or.inl ⟨by rfl, ?_⟩) ?_
            rotate_left
            · (intro w; go_simp; (try with_reducible rfl))
            simp only [Act.put, List.getElem_toArray, List.getElem_cons_succ, List.getElem_cons_zero, List.setIfInBounds_toArray, List.set_cons_zero, List.set_cons_succ]
            refine wpAny_ready (rs := [5, 9, 10]) (by kernel_rfl) (by simp) ?_
            refine AllReady.cons (o := _) rfl (fun K hK => ?_) ?_
            · refine step_load_mid rfl 34 _ rfl S 0 rfl us _ RG.out.1 Try.underlying34 rfl RG.out.2.2.2.2.2 ?_
              simp only [Act.put, List.getElem_toArray, List.getElem_cons_succ, List.getElem_cons_zero, List.setIfInBounds_toArray, List.set_cons_zero, List.set_cons_succ]
              refine hK _ _ ?_
              clear hK K
              try simp only [Act.put, List.getElem_toArray, List.getElem_cons_succ, List.getElem_cons_zero, List.setIfInBounds_toArray, List.set_cons_zero, List.set_cons_succ]
              refine wpAny_ready (rs := [9, 10]) (by kernel_rfl) (by simp) ?_
              refine AllReady.cons (o := _) rfl (fun K hK => ?_) ?_
              · refine step_load_mid rfl 36 _ rfl S 8 rfl rs _ RG.out.2.1 Try.underlying36 rfl RG.out.2.2.2.1 ?_
                simp only [Act.put, List.getElem_toArray, List.getElem_cons_succ, List.getElem_cons_zero, List.setIfInBounds_toArray, List.set_cons_zero, List.set_cons_succ]
                refine hK _ _ ?_
                clear hK K
                try simp only [Act.put, List.getElem_toArray, List.getElem_cons_succ, List.getElem_cons_zero, List.setIfInBounds_toArray, List.set_cons_zero, List.set_cons_succ]
                refine wpAny_ready (rs := [10]) (by kernel_rfl) (by simp) ?_
                refine AllReady.cons (o := _) rfl (fun K hK => ?_) AllReady.nil
                refine step_load_mid rfl 59 _ rfl G 0 rfl k2 _ RG.out.2.2.1 Try.underlying59 rfl RG.out.2.2.2.2.1 ?_
                simp only [Act.put, List.getElem_toArray, List.getElem_cons_succ, List.getElem_cons_zero, List.setIfInBounds_toArray, List.set_cons_zero, List.set_cons_succ]
                refine hK _ _ ?_
                clear hK K
                try simp only [Act.put, List.getElem_toArray, List.getElem_cons_succ, List.getElem_cons_zero, List.setIfInBounds_toArray, List.set_cons_zero, List.set_cons_succ]
                refine wpAny_ready (rs := [11]) (by kernel_rfl) (by simp) ?_
                refine AllReady.cons (o := _) rfl (fun K hK => ?_) AllReady.nil
                go_simp
                refine (CS.out _).mono ?_
                rintro e w9 ⟨rfl, hb9⟩
                have A9 := HN.out.1.drew.below hb9
                have TH : Hid (w9.there S 0 vs.size) := A9.there 0 _ (by rw [HV.out.2.1]; have h7 : u.list.length = 8 := rfl; simp [stCells]; omega)
                have A10 : ArrIs (w9.setCells S 0 vs.toList) S 39 (stCells (blockW u K0 rb2) rb2 64 t' true) := by rw [HV.out.1]; exact st_setSum A9 _
                have c10 := st_at A10 HN.out.2.1 0 _ rfl
                have f10 := A10.free 72
                have HO : Hid (OpenSt ((w9.setCells S 0 vs.toList).setCell ⟨S, 72, none⟩ (.int .i64 0)) S (p ++ (q ++ r.take k).map UInt8.toNat) t') := HN.out.2.2.2.2 _ (st_setFill A10 HN.out.2.1 0)
                have hgr : w8.grownBy ((w9.setCells S 0 vs.toList).setCell ⟨S, 72, none⟩ (.int .i64 0)) (some S) := grown_tr (grown_cells S _ 0 _ (grown_of_below (kp_call (Below.refl _ _).drew hb9) (Nat.le_refl _) _)) (grown_one _ _ _ _)
                have HQ : Hid ((r.drop k).length = m - k ∧ (q ++ r.take k) ++ r.drop k = bs ∧ OpenSt ((w9.setCells S 0 vs.toList).setCell ⟨S, 72, none⟩ (.int .i64 0)) S (p ++ (q ++ r.take k).map UInt8.toNat) t' ∧ Src ((w9.setCells S 0 vs.toList).setCell ⟨S, 72, none⟩ (.int .i64 0)) S SA (r.drop k) ∧ w.grownBy ((w9.setCells S 0 vs.toList).setCell ⟨S, 72, none⟩ (.int .i64 0)) (some S) ∧ ArrIs ((w9.setCells S 0 vs.toList).setCell ⟨S, 72, none⟩ (.int .i64 0)) G 59 (K0.map v32)) :=
                  ⟨HM.out.1, HM.out.2.1, HO.out, HM.out.2.2.1.kept hgr, grown_tr HM.out.2.2.2.1 hgr, (ArrIs.farCells (by omega) _ _ _ (HM.out.2.2.2.2.drew.below hb9)).far (by omega)⟩
                clear hgr A9 A10 hb9 HO
                obtain ⟨wx, hwx⟩ : ∃ wx, w9.setCells S 0 vs.toList = wx := ⟨_, rfl⟩
                rw [hwx] at c10 f10 HQ
                have HX := Lib.hid hwx
                clear hwx
                go_wp2_with fail
                try refine hK _ _ ?_
                try clear hK K
                try simp only [Act.put, List.getElem_toArray, List.getElem_cons_succ, List.getElem_cons_zero, List.setIfInBounds_toArray, List.set_cons_zero, List.set_cons_succ]
                refine wpAny_take (i := 12) (oi := _) (v := ?_) rfl (by kernel_rfl) (by kernel_rfl) (by kernel_rfl) (fun _ _ _ h => h) (Or.inl ⟨by rfl, ?_⟩) ?_
                rotate_left
                · (intro w; go_simp; (try with_reducible rfl))
                simp only [Act.put, List.getElem_toArray, List.getElem_cons_succ, List.getElem_cons_zero, List.setIfInBounds_toArray, List.set_cons_zero, List.set_cons_succ]
                refine wpAny_take (i := 13) (oi := _) (v := ?_) rfl (by kernel_rfl) (by kernel_rfl) (by kernel_rfl) (fun _ _ _ h => h) (Or.inl ⟨by rfl, ?_⟩) ?_
                rotate_left
                · (intro w; go_simp; (try with_reducible rfl))
                simp only [Act.put, List.getElem_toArray, List.getElem_cons_succ, List.getElem_cons_zero, List.setIfInBounds_toArray, List.set_cons_zero, List.set_cons_succ]
                refine wpAny_ready (rs := [14]) (by kernel_rfl) (by simp) ?_
                refine AllReady.cons (o := _) rfl (fun K hK => ?_) AllReady.nil
                refine step_store_mid rfl 34 _ _ rfl S 0 vs rfl rfl TH.out (by rw [HV.out.2.1]; exact size_words) HV.out.2.2 ?_
                simp only [Act.put, List.getElem_toArray, List.getElem_cons_succ, List.getElem_cons_zero, List.setIfInBounds_toArray, List.set_cons_zero, List.set_cons_succ]
                refine hK _ _ ?_
                clear hK K
                rw [HX.out]
                try simp only [Act.put, List.getElem_toArray, List.getElem_cons_succ, List.getElem_cons_zero, List.setIfInBounds_toArray, List.set_cons_zero, List.set_cons_succ]
                refine wpAny_take (i := 15) (oi := _) (v := ?_) rfl (by kernel_rfl) (by kernel_rfl) (by kernel_rfl) (fun _ _ _ h => h) (Or.inl ⟨by rfl, ?_⟩) ?_
                rotate_left
                · (intro w; go_simp; (try with_reducible rfl))
                simp only [Act.put, List.getElem_toArray, List.getElem_cons_succ, List.getElem_cons_zero, List.setIfInBounds_toArray, List.set_cons_zero, List.set_cons_succ]
                refine wpAny_take (i := 16) (oi := _) (v := ?_) rfl (by kernel_rfl) (by kernel_rfl) (by kernel_rfl) (fun _ _ _ h => h) (Or.inl ⟨by rfl, ?_⟩) ?_
                rotate_left
                · (intro w; go_simp; (try with_reducible rfl))
                simp only [Act.put, List.getElem_toArray, List.getElem_cons_succ, List.getElem_cons_zero, List.setIfInBounds_toArray, List.set_cons_zero, List.set_cons_succ]
                refine wpAny_ready (rs := [17]) (by kernel_rfl) (by simp) ?_
                refine AllReady.cons (o := _) rfl (fun K hK => ?_) AllReady.nil
                go_simp
                refine hK _ _ ?_
                clear hK K
                refine wpAny_done (by kernel_rfl) ?_ _
                go_wp2
                go_roundw
                case rel => exact ⟨q ++ r.take k, r.drop k, SA, m - k, c' - k, rfl, by omega, by omega, by omega, HQ.out⟩
                case measure => simp only [slLen]; omega
              refine AllReady.cons (o := _) rfl (fun K hK => ?_) AllReady.nil
              refine step_load_mid rfl 59 _ rfl G 0 rfl k2 _ RG.out.2.2.1 Try.underlying59 rfl RG.out.2.2.2.2.1 ?_
              simp only [Act.put, List.getElem_toArray, List.getElem_cons_succ, List.getElem_cons_zero, List.setIfInBounds_toArray, List.set_cons_zero, List.set_cons_succ]
              refine hK _ _ ?_
              clear hK K
              try simp only [Act.put, List.getElem_toArray, List.getElem_cons_succ, List.getElem_cons_zero, List.setIfInBounds_toArray, List.set_cons_zero, List.set_cons_succ]
              refine wpAny_ready (rs := [9]) (by kernel_rfl) (by simp) ?_
              refine AllReady.cons (o := _) rfl (fun K hK => ?_) AllReady.nil
              refine step_load_mid rfl 36 _ rfl S 8 rfl rs _ RG.out.2.1 Try.underlying36 rfl RG.out.2.2.2.1 ?_
              simp only [Act.put, List.getElem_toArray, List.getElem_cons_succ, List.getElem_cons_zero, List.setIfInBounds_toArray, List.set_cons_zero, List.set_cons_succ]
              refine hK _ _ ?_
              clear hK K
              try simp only [Act.put, List.getElem_toArray, List.getElem_cons_succ, List.getElem_cons_zero, List.setIfInBounds_toArray, List.set_cons_zero, List.set_cons_succ]
              refine wpAny_ready (rs := [11]) (by kernel_rfl) (by simp) ?_
              refine AllReady.cons (o := _) rfl (fun K hK => ?_) AllReady.nil
              go_simp
              refine (CS.out _).mono ?_
              rintro e w9 ⟨rfl, hb9⟩
              have A9 := HN.out.1.drew.below hb9
              have TH : Hid (w9.there S 0 vs.size) := A9.there 0 _ (by rw [HV.out.2.1]; have h7 : u.list.length = 8 := rfl; simp [stCells]; omega)
              have A10 : ArrIs (w9.setCells S 0 vs.toList) S 39 (stCells (blockW u K0 rb2) rb2 64 t' true) := by rw [HV.out.1]; exact st_setSum A9 _
              have c10 := st_at A10 HN.out.2.1 0 _ rfl
              have f10 := A10.free 72
              have HO : Hid (OpenSt ((w9.setCells S 0 vs.toList).setCell ⟨S, 72, none⟩ (.int .i64 0)) S (p ++ (q ++ r.take k).map UInt8.toNat) t') := HN.out.2.2.2.2 _ (st_setFill A10 HN.out.2.1 0)
              have hgr : w8.grownBy ((w9.setCells S 0 vs.toList).setCell ⟨S, 72, none⟩ (.int .i64 0)) (some S) := grown_tr (grown_cells S _ 0 _ (grown_of_below (kp_call (Below.refl _ _).drew hb9) (Nat.le_refl _) _)) (grown_one _ _ _ _)
              have HQ : Hid ((r.drop k).length = m - k ∧ (q ++ r.take k) ++ r.drop k = bs ∧ OpenSt ((w9.setCells S 0 vs.toList).setCell ⟨S, 72, none⟩ (.int .i64 0)) S (p ++ (q ++ r.take k).map UInt8.toNat) t' ∧ Src ((w9.setCells S 0 vs.toList).setCell ⟨S, 72, none⟩ (.int .i64 0)) S SA (r.drop k) ∧ w.grownBy ((w9.setCells S 0 vs.toList).setCell ⟨S, 72, none⟩ (.int .i64 0)) (some S) ∧ ArrIs ((w9.setCells S 0 vs.toList).setCell ⟨S, 72, none⟩ (.int .i64 0)) G 59 (K0.map v32)) :=
                ⟨HM.out.1, HM.out.2.1, HO.out, HM.out.2.2.1.kept hgr, grown_tr HM.out.2.2.2.1 hgr, (ArrIs.farCells (by omega) _ _ _ (HM.out.2.2.2.2.drew.below hb9)).far (by omega)⟩
              clear hgr A9 A10 hb9 HO
              obtain ⟨wx, hwx⟩ : ∃ wx, w9.setCells S 0 vs.toList = wx := ⟨_, rfl⟩
              rw [hwx] at c10 f10 HQ
              have HX := Lib.hid hwx
              clear hwx
              go_wp2_with fail
              try refine hK _ _ ?_
              try clear hK K
              try simp only [Act.put, List.getElem_toArray, List.getElem_cons_succ, List.getElem_cons_zero, List.setIfInBounds_toArray, List.set_cons_zero, List.set_cons_succ]
              refine wpAny_take (i := 12) (oi := _) (v := ?_) rfl (by kernel_rfl) (by kernel_rfl) (by kernel_rfl) (fun _ _ _ h => h) (Or.inl ⟨by rfl, ?_⟩) ?_
              rotate_left
              · (intro w; go_simp; (try with_reducible rfl))
              simp only [Act.put, List.getElem_toArray, List.getElem_cons_succ, List.getElem_cons_zero, List.setIfInBounds_toArray, List.set_cons_zero, List.set_cons_succ]
              refine wpAny_take (i := 13) (oi := _) (v := ?_) rfl (by kernel_rfl) (by kernel_rfl) (by kernel_rfl) (fun _ _ _ h => h) (Or.inl ⟨by rfl, ?_⟩) ?_
              rotate_left
              · (intro w; go_simp; (try with_reducible rfl))
              simp only [Act.put, List.getElem_toArray, List.getElem_cons_succ, List.getElem_cons_zero, List.setIfInBounds_toArray, List.set_cons_zero, List.set_cons_succ]
              refine wpAny_ready (rs := [14]) (by kernel_rfl) (by simp) ?_
              refine AllReady.cons (o := _) rfl (fun K hK => ?_) AllReady.nil
              refine step_store_mid rfl 34 _ _ rfl S 0 vs rfl rfl TH.out (by rw [HV.out.2.1]; exact size_words) HV.out.2.2 ?_
              simp only [Act.put, List.getElem_toArray, List.getElem_cons_succ, List.getElem_cons_zero, List.setIfInBounds_toArray, List.set_cons_zero, List.set_cons_succ]
              refine hK _ _ ?_
              clear hK K
              rw [HX.out]
              try simp only [Act.put, List.getElem_toArray, List.getElem_cons_succ, List.getElem_cons_zero, List.setIfInBounds_toArray, List.set_cons_zero, List.set_cons_succ]
              refine wpAny_take (i := 15) (oi := _) (v := ?_) rfl (by kernel_rfl) (by kernel_rfl) (by kernel_rfl) (fun _ _ _ h => h) (Or.inl ⟨by rfl, ?_⟩) ?_
              rotate_left
              · (intro w; go_simp; (try with_reducible rfl))
              simp only [Act.put, List.getElem_toArray, List.getElem_cons_succ, List.getElem_cons_zero, List.setIfInBounds_toArray, List.set_cons_zero, List.set_cons_succ]
              refine wpAny_take (i := 16) (oi := _) (v := ?_) rfl (by kernel_rfl) (by kernel_rfl) (by kernel_rfl) (fun _ _ _ h => h) (Or.inl ⟨by rfl, ?_⟩) ?_
              rotate_left
              · (intro w; go_simp; (try with_reducible rfl))
              simp only [Act.put, List.getElem_toArray, List.getElem_cons_succ, List.getElem_cons_zero, List.setIfInBounds_toArray, List.set_cons_zero, List.set_cons_succ]
              refine wpAny_ready (rs := [17]) (by kernel_rfl) (by simp) ?_
              refine AllReady.cons (o := _) rfl (fun K hK => ?_) AllReady.nil
              go_simp
              refine hK _ _ ?_
              clear hK K
              refine wpAny_done (by kernel_rfl) ?_ _
              go_wp2
              go_roundw
              case rel => exact ⟨q ++ r.take k, r.drop k, SA, m - k, c' - k, rfl, by omega, by omega, by omega, HQ.out⟩
              case measure => simp only [slLen]; omega
            refine AllReady.cons (o := _) rfl (fun K hK => ?_) ?_
            · refine step_load_mid rfl 36 _ rfl S 8 rfl rs _ RG.out.2.1 Try.underlying36 rfl RG.out.2.2.2.1 ?_
              simp only [Act.put, List.getElem_toArray, List.getElem_cons_succ, List.getElem_cons_zero, List.setIfInBounds_toArray, List.set_cons_zero, List.set_cons_succ]
              refine hK _ _ ?_
              clear hK K
              try simp only [Act.put, List.getElem_toArray, List.getElem_cons_succ, List.getElem_cons_zero, List.setIfInBounds_toArray, List.set_cons_zero, List.set_cons_succ]
              refine wpAny_ready (rs := [5, 10]) (by kernel_rfl) (by simp) ?_
              refine AllReady.cons (o := _) rfl (fun K hK => ?_) ?_
              · refine step_load_mid rfl 34 _ rfl S 0 rfl us _ RG.out.1 Try.underlying34 rfl RG.out.2.2.2.2.2 ?_
                simp only [Act.put, List.getElem_toArray, List.getElem_cons_succ, List.getElem_cons_zero, List.setIfInBounds_toArray, List.set_cons_zero, List.set_cons_succ]
                refine hK _ _ ?_
                clear hK K
                try simp only [Act.put, List.getElem_toArray, List.getElem_cons_succ, List.getElem_cons_zero, List.setIfInBounds_toArray, List.set_cons_zero, List.set_cons_succ]
                refine wpAny_ready (rs := [10]) (by kernel_rfl) (by simp) ?_
                refine AllReady.cons (o := _) rfl (fun K hK => ?_) AllReady.nil
                refine step_load_mid rfl 59 _ rfl G 0 rfl k2 _ RG.out.2.2.1 Try.underlying59 rfl RG.out.2.2.2.2.1 ?_
                simp only [Act.put, List.getElem_toArray, List.getElem_cons_succ, List.getElem_cons_zero, List.setIfInBounds_toArray, List.set_cons_zero, List.set_cons_succ]
                refine hK _ _ ?_
                clear hK K
                try simp only [Act.put, List.getElem_toArray, List.getElem_cons_succ, List.getElem_cons_zero, List.setIfInBounds_toArray, List.set_cons_zero, List.set_cons_succ]
                refine wpAny_ready (rs := [11]) (by kernel_rfl) (by simp) ?_
                refine AllReady.cons (o := _) rfl (fun K hK => ?_) AllReady.nil
                go_simp
                refine (CS.out _).mono ?_
                rintro e w9 ⟨rfl, hb9⟩
                have A9 := HN.out.1.drew.below hb9
                have TH : Hid (w9.there S 0 vs.size) := A9.there 0 _ (by rw [HV.out.2.1]; have h7 : u.list.length = 8 := rfl; simp [stCells]; omega)
                have A10 : ArrIs (w9.setCells S 0 vs.toList) S 39 (stCells (blockW u K0 rb2) rb2 64 t' true) := by rw [HV.out.1]; exact st_setSum A9 _
                have c10 := st_at A10 HN.out.2.1 0 _ rfl
                have f10 := A10.free 72
                have HO : Hid (OpenSt ((w9.setCells S 0 vs.toList).setCell ⟨S, 72, none⟩ (.int .i64 0)) S (p ++ (q ++ r.take k).map UInt8.toNat) t') := HN.out.2.2.2.2 _ (st_setFill A10 HN.out.2.1 0)
                have hgr : w8.grownBy ((w9.setCells S 0 vs.toList).setCell ⟨S, 72, none⟩ (.int .i64 0)) (some S) := grown_tr (grown_cells S _ 0 _ (grown_of_below (kp_call (Below.refl _ _).drew hb9) (Nat.le_refl _) _)) (grown_one _ _ _ _)
                have HQ : Hid ((r.drop k).length = m - k ∧ (q ++ r.take k) ++ r.drop k = bs ∧ OpenSt ((w9.setCells S 0 vs.toList).setCell ⟨S, 72, none⟩ (.int .i64 0)) S (p ++ (q ++ r.take k).map UInt8.toNat) t' ∧ Src ((w9.setCells S 0 vs.toList).setCell ⟨S, 72, none⟩ (.int .i64 0)) S SA (r.drop k) ∧ w.grownBy ((w9.setCells S 0 vs.toList).setCell ⟨S, 72, none⟩ (.int .i64 0)) (some S) ∧ ArrIs ((w9.setCells S 0 vs.toList).setCell ⟨S, 72, none⟩ (.int .i64 0)) G 59 (K0.map v32)) :=
                  ⟨HM.out.1, HM.out.2.1, HO.out, HM.out.2.2.1.kept hgr, grown_tr HM.out.2.2.2.1 hgr, (ArrIs.farCells (by omega) _ _ _ (HM.out.2.2.2.2.drew.below hb9)).far (by omega)⟩
                clear hgr A9 A10 hb9 HO
                obtain ⟨wx, hwx⟩ : ∃ wx, w9.setCells S 0 vs.toList = wx := ⟨_, rfl⟩
                rw [hwx] at c10 f10 HQ
                have HX := Lib.hid hwx
                clear hwx
                go_wp2_with fail
                try refine hK _ _ ?_
                try clear hK K
                try simp only [Act.put, List.getElem_toArray, List.getElem_cons_succ, List.getElem_cons_zero, List.setIfInBounds_toArray, List.set_cons_zero, List.set_cons_succ]
                refine wpAny_take (i := 12) (oi := _) (v := ?_) rfl (by kernel_rfl) (by kernel_rfl) (by kernel_rfl) (fun _ _ _ h => h) (Or.inl ⟨by rfl, ?_⟩) ?_
                rotate_left
                · (intro w; go_simp; (try with_reducible rfl))
                simp only [Act.put, List.getElem_toArray, List.getElem_cons_succ, List.getElem_cons_zero, List.setIfInBounds_toArray, List.set_cons_zero, List.set_cons_succ]
                refine wpAny_take (i := 13) (oi := _) (v := ?_) rfl (by kernel_rfl) (by kernel_rfl) (by kernel_rfl) (fun _ _ _ h => h) (Or.inl ⟨by rfl, ?_⟩) ?_
                rotate_left
                · (intro w; go_simp; (try with_reducible rfl))
                simp only [Act.put, List.getElem_toArray, List.getElem_cons_succ, List.getElem_cons_zero, List.setIfInBounds_toArray, List.set_cons_zero, List.set_cons_succ]
                refine wpAny_ready (rs := [14]) (by kernel_rfl) (by simp) ?_
                refine AllReady.cons (o := _) rfl (fun K hK => ?_) AllReady.nil
                refine step_store_mid rfl 34 _ _ rfl S 0 vs rfl rfl TH.out (by rw [HV.out.2.1]; exact size_words) HV.out.2.2 ?_
                simp only [Act.put, List.getElem_toArray, List.getElem_cons_succ, List.getElem_cons_zero, List.setIfInBounds_toArray, List.set_cons_zero, List.set_cons_succ]
                refine hK _ _ ?_
                clear hK K
                rw [HX.out]
                try simp only [Act.put, List.getElem_toArray, List.getElem_cons_succ, List.getElem_cons_zero, List.setIfInBounds_toArray, List.set_cons_zero, List.set_cons_succ]
                refine wpAny_take (i := 15) (oi := _) (v := ?_) rfl (by kernel_rfl) (by kernel_rfl) (by kernel_rfl) (fun _ _ _ h => h) (Or.inl ⟨by rfl, ?_⟩) ?_
                rotate_left
                · (intro w; go_simp; (try with_reducible rfl))
                simp only [Act.put, List.getElem_toArray, List.getElem_cons_succ, List.getElem_cons_zero, List.setIfInBounds_toArray, List.set_cons_zero, List.set_cons_succ]
                refine wpAny_take (i := 16) (oi := _) (v := ?_) rfl (by kernel_rfl) (by kernel_rfl) (by kernel_rfl) (fun _ _ _ h => h) (Or.inl ⟨by rfl, ?_⟩) ?_
                rotate_left
                · (intro w; go_simp; (try with_reducible rfl))
                simp only [Act.put, List.getElem_toArray, List.getElem_cons_succ, List.getElem_cons_zero, List.setIfInBounds_toArray, List.set_cons_zero, List.set_cons_succ]
                refine wpAny_ready (rs := [17]) (by kernel_rfl) (by simp) ?_
                refine AllReady.cons (o := _) rfl (fun K hK => ?_) AllReady.nil
                go_simp
                refine hK _ _ ?_
                clear hK K
                refine wpAny_done (by kernel_rfl) ?_ _
                go_wp2
                go_roundw
                case rel => exact ⟨q ++ r.take k, r.drop k, SA, m - k, c' - k, rfl, by omega, by omega, by omega, HQ.out⟩
                case measure => simp only [slLen]; omega
              refine AllReady.cons (o := _) rfl (fun K hK => ?_) AllReady.nil
              refine step_load_mid rfl 59 _ rfl G 0 rfl k2 _ RG.out.2.2.1 Try.underlying59 rfl RG.out.2.2.2.2.1 ?_
              simp only [Act.put, List.getElem_toArray, List.getElem_cons_succ, List.getElem_cons_zero, List.setIfInBounds_toArray, List.set_cons_zero, List.set_cons_succ]
              refine hK _ _ ?_
              clear hK K
              try simp only [Act.put, List.getElem_toArray, List.getElem_cons_succ, List.getElem_cons_zero, List.setIfInBounds_toArray, List.set_cons_zero, List.set_cons_succ]
              refine wpAny_ready (rs := [5]) (by kernel_rfl) (by simp) ?_
              refine AllReady.cons (o := _) rfl (fun K hK => ?_) AllReady.nil
              refine step_load_mid rfl 34 _ rfl S 0 rfl us _ RG.out.1 Try.underlying34 rfl RG.out.2.2.2.2.2 ?_
              simp only [Act.put, List.getElem_toArray, List.getElem_cons_succ, List.getElem_cons_zero, List.setIfInBounds_toArray, List.set_cons_zero, List.set_cons_succ]
              refine hK _ _ ?_
              clear hK K
              try simp only [Act.put, List.getElem_toArray, List.getElem_cons_succ, List.getElem_cons_zero, List.setIfInBounds_toArray, List.set_cons_zero, List.set_cons_succ]
              refine wpAny_ready (rs := [11]) (by kernel_rfl) (by simp) ?_
              refine AllReady.cons (o := _) rfl (fun K hK => ?_) AllReady.nil
              go_simp
              refine (CS.out _).mono ?_
              rintro e w9 ⟨rfl, hb9⟩
              have A9 := HN.out.1.drew.below hb9
              have TH : Hid (w9.there S 0 vs.size) := A9.there 0 _ (by rw [HV.out.2.1]; have h7 : u.list.length = 8 := rfl; simp [stCells]; omega)
              have A10 : ArrIs (w9.setCells S 0 vs.toList) S 39 (stCells (blockW u K0 rb2) rb2 64 t' true) := by rw [HV.out.1]; exact st_setSum A9 _
              have c10 := st_at A10 HN.out.2.1 0 _ rfl
              have f10 := A10.free 72
              have HO : Hid (OpenSt ((w9.setCells S 0 vs.toList).setCell ⟨S, 72, none⟩ (.int .i64 0)) S (p ++ (q ++ r.take k).map UInt8.toNat) t') := HN.out.2.2.2.2 _ (st_setFill A10 HN.out.2.1 0)
              have hgr : w8.grownBy ((w9.setCells S 0 vs.toList).setCell ⟨S, 72, none⟩ (.int .i64 0)) (some S) := grown_tr (grown_cells S _ 0 _ (grown_of_below (kp_call (Below.refl _ _).drew hb9) (Nat.le_refl _) _)) (grown_one _ _ _ _)
              have HQ : Hid ((r.drop k).length = m - k ∧ (q ++ r.take k) ++ r.drop k = bs ∧ OpenSt ((w9.setCells S 0 vs.toList).setCell ⟨S, 72, none⟩ (.int .i64 0)) S (p ++ (q ++ r.take k).map UInt8.toNat) t' ∧ Src ((w9.setCells S 0 vs.toList).setCell ⟨S, 72, none⟩ (.int .i64 0)) S SA (r.drop k) ∧ w.grownBy ((w9.setCells S 0 vs.toList).setCell ⟨S, 72, none⟩ (.int .i64 0)) (some S) ∧ ArrIs ((w9.setCells S 0 vs.toList).setCell ⟨S, 72, none⟩ (.int .i64 0)) G 59 (K0.map v32)) :=
                ⟨HM.out.1, HM.out.2.1, HO.out, HM.out.2.2.1.kept hgr, grown_tr HM.out.2.2.2.1 hgr, (ArrIs.farCells (by omega) _ _ _ (HM.out.2.2.2.2.drew.below hb9)).far (by omega)⟩
              clear hgr A9 A10 hb9 HO
              obtain ⟨wx, hwx⟩ : ∃ wx, w9.setCells S 0 vs.toList = wx := ⟨_, rfl⟩
              rw [hwx] at c10 f10 HQ
              have HX := Lib.hid hwx
              clear hwx
              go_wp2_with fail
              try refine hK _ _ ?_
              try clear hK K
              try simp only [Act.put, List.getElem_toArray, List.getElem_cons_succ, List.getElem_cons_zero, List.setIfInBounds_toArray, List.set_cons_zero, List.set_cons_succ]
              refine wpAny_take (i := 12) (oi := _) (v := ?_) rfl (by kernel_rfl) (by kernel_rfl) (by kernel_rfl) (fun _ _ _ h => h) (Or.inl ⟨by rfl, ?_⟩) ?_
              rotate_left
              · (intro w; go_simp; (try with_reducible rfl))
              simp only [Act.put, List.getElem_toArray, List.getElem_cons_succ, List.getElem_cons_zero, List.setIfInBounds_toArray, List.set_cons_zero, List.set_cons_succ]
              refine wpAny_take (i := 13) (oi := _) (v := ?_) rfl (by kernel_rfl) (by kernel_rfl) (by kernel_rfl) (fun _ _ _ h => h) (Or.inl ⟨by rfl, ?_⟩) ?_
              rotate_left
              · (intro w; go_simp; (try with_reducible rfl))
              simp only [Act.put, List.getElem_toArray, List.getElem_cons_succ, List.getElem_cons_zero, List.setIfInBounds_toArray, List.set_cons_zero, List.set_cons_succ]
              refine wpAny_ready (rs := [14]) (by kernel_rfl) (by simp) ?_
              refine AllReady.cons (o := _) rfl (fun K hK => ?_) AllReady.nil
              refine step_store_mid rfl 34 _ _ rfl S 0 vs rfl rfl TH.out (by rw [HV.out.2.1]; exact size_words) HV.out.2.2 ?_
              simp only [Act.put, List.getElem_toArray, List.getElem_cons_succ, List.getElem_cons_zero, List.setIfInBounds_toArray, List.set_cons_zero, List.set_cons_succ]
              refine hK _ _ ?_
              clear hK K
              rw [HX.out]
              try simp only [Act.put, List.getElem_toArray, List.getElem_cons_succ, List.getElem_cons_zero, List.setIfInBounds_toArray, List.set_cons_zero, List.set_cons_succ]
              refine wpAny_take (i := 15) (oi := _) (v := ?_) rfl (by kernel_rfl) (by kernel_rfl) (by kernel_rfl) (fun _ _ _ h => h) (Or.inl ⟨by rfl, ?_⟩) ?_
              rotate_left
              · (intro w; go_simp; (try with_reducible rfl))
              simp only [Act.put, List.getElem_toArray, List.getElem_cons_succ, List.getElem_cons_zero, List.setIfInBounds_toArray, List.set_cons_zero, List.set_cons_succ]
              refine wpAny_take (i := 16) (oi := _) (v := ?_) rfl (by kernel_rfl) (by kernel_rfl) (by kernel_rfl) (fun _ _ _ h => h) (Or.inl ⟨by rfl, ?_⟩) ?_
              rotate_left
              · (intro w; go_simp; (try with_reducible rfl))
              simp only [Act.put, List.getElem_toArray, List.getElem_cons_succ, List.getElem_cons_zero, List.setIfInBounds_toArray, List.set_cons_zero, List.set_cons_succ]
              refine wpAny_ready (rs := [17]) (by kernel_rfl) (by simp) ?_
              refine AllReady.cons (o := _) rfl (fun K hK => ?_) AllReady.nil
              go_simp
              refine hK _ _ ?_
              clear hK K
              refine wpAny_done (by kernel_rfl) ?_ _
              go_wp2
              go_roundw
              case rel => exact ⟨q ++ r.take k, r.drop k, SA, m - k, c' - k, rfl, by omega, by omega, by omega, HQ.out⟩
              case measure => simp only [slLen]; omega
            refine AllReady.cons (o := _) rfl (fun K hK => ?_) AllReady.nil
            refine step_load_mid rfl 59 _ rfl G 0 rfl k2 _ RG.out.2.2.1 Try.underlying59 rfl RG.out.2.2.2.2.1 ?_
            simp only [Act.put, List.getElem_toArray, List.getElem_cons_succ, List.getElem_cons_zero, List.setIfInBounds_toArray, List.set_cons_zero, List.set_cons_succ]
            refine hK _ _ ?_
            clear hK K
            try simp only [Act.put, List.getElem_toArray, List.getElem_cons_succ, List.getElem_cons_zero, List.setIfInBounds_toArray, List.set_cons_zero, List.set_cons_succ]
            refine wpAny_ready (rs := [5, 9]) (by kernel_rfl) (by simp) ?_
            refine AllReady.cons (o := _) rfl (fun K hK => ?_) ?_
            · refine step_load_mid rfl 34 _ rfl S 0 rfl us _ RG.out.1 Try.underlying34 rfl RG.out.2.2.2.2.2 ?_
              simp only [Act.put, List.getElem_toArray, List.getElem_cons_succ, List.getElem_cons_zero, List.setIfInBounds_toArray, List.set_cons_zero, List.set_cons_succ]
              refine hK _ _ ?_
              clear hK K
              try simp only [Act.put, List.getElem_toArray, List.getElem_cons_succ, List.getElem_cons_zero, List.setIfInBounds_toArray, List.set_cons_zero, List.set_cons_succ]
              refine wpAny_ready (rs := [9]) (by kernel_rfl) (by simp) ?_
              refine AllReady.cons (o := _) rfl (fun K hK => ?_) AllReady.nil
              refine step_load_mid rfl 36 _ rfl S 8 rfl rs _ RG.out.2.1 Try.underlying36 rfl RG.out.2.2.2.1 ?_
              simp only [Act.put, List.getElem_toArray, List.getElem_cons_succ, List.getElem_cons_zero, List.setIfInBounds_toArray, List.set_cons_zero, List.set_cons_succ]
              refine hK _ _ ?_
              clear hK K
              try simp only [Act.put, List.getElem_toArray, List.getElem_cons_succ, List.getElem_cons_zero, List.setIfInBounds_toArray, List.set_cons_zero, List.set_cons_succ]
              refine wpAny_ready (rs := [11]) (by kernel_rfl) (by simp) ?_
              refine AllReady.cons (o := _) rfl (fun K hK => ?_) AllReady.nil
              go_simp
              refine (CS.out _).mono ?_
              rintro e w9 ⟨rfl, hb9⟩
              have A9 := HN.out.1.drew.below hb9
              have TH : Hid (w9.there S 0 vs.size) := A9.there 0 _ (by rw [HV.out.2.1]; have h7 : u.list.length = 8 := rfl; simp [stCells]; omega)
              have A10 : ArrIs (w9.setCells S 0 vs.toList) S 39 (stCells (blockW u K0 rb2) rb2 64 t' true) := by rw [HV.out.1]; exact st_setSum A9 _
              have c10 := st_at A10 HN.out.2.1 0 _ rfl
              have f10 := A10.free 72
              have HO : Hid (OpenSt ((w9.setCells S 0 vs.toList).setCell ⟨S, 72, none⟩ (.int .i64 0)) S (p ++ (q ++ r.take k).map UInt8.toNat) t') := HN.out.2.2.2.2 _ (st_setFill A10 HN.out.2.1 0)
              have hgr : w8.grownBy ((w9.setCells S 0 vs.toList).setCell ⟨S, 72, none⟩ (.int .i64 0)) (some S) := grown_tr (grown_cells S _ 0 _ (grown_of_below (kp_call (Below.refl _ _).drew hb9) (Nat.le_refl _) _)) (grown_one _ _ _ _)
              have HQ : Hid ((r.drop k).length = m - k ∧ (q ++ r.take k) ++ r.drop k = bs ∧ OpenSt ((w9.setCells S 0 vs.toList).setCell ⟨S, 72, none⟩ (.int .i64 0)) S (p ++ (q ++ r.take k).map UInt8.toNat) t' ∧ Src ((w9.setCells S 0 vs.toList).setCell ⟨S, 72, none⟩ (.int .i64 0)) S SA (r.drop k) ∧ w.grownBy ((w9.setCells S 0 vs.toList).setCell ⟨S, 72, none⟩ (.int .i64 0)) (some S) ∧ ArrIs ((w9.setCells S 0 vs.toList).setCell ⟨S, 72, none⟩ (.int .i64 0)) G 59 (K0.map v32)) :=
                ⟨HM.out.1, HM.out.2.1, HO.out, HM.out.2.2.1.kept hgr, grown_tr HM.out.2.2.2.1 hgr, (ArrIs.farCells (by omega) _ _ _ (HM.out.2.2.2.2.drew.below hb9)).far (by omega)⟩
              clear hgr A9 A10 hb9 HO
              obtain ⟨wx, hwx⟩ : ∃ wx, w9.setCells S 0 vs.toList = wx := ⟨_, rfl⟩
              rw [hwx] at c10 f10 HQ
              have HX := Lib.hid hwx
              clear hwx
              go_wp2_with fail
              try refine hK _ _ ?_
              try clear hK K
              try simp only [Act.put, List.getElem_toArray, List.getElem_cons_succ, List.getElem_cons_zero, List.setIfInBounds_toArray, List.set_cons_zero, List.set_cons_succ]
              refine wpAny_take (i := 12) (oi := _) (v := ?_) rfl (by kernel_rfl) (by kernel_rfl) (by kernel_rfl) (fun _ _ _ h => h) (Or.inl ⟨by rfl, ?_⟩) ?_
              rotate_left
              · (intro w; go_simp; (try with_reducible rfl))
              simp only [Act.put, List.getElem_toArray, List.getElem_cons_succ, List.getElem_cons_zero, List.setIfInBounds_toArray, List.set_cons_zero, List.set_cons_succ]
              refine wpAny_take (i := 13) (oi := _) (v := ?_) rfl (by kernel_rfl) (by kernel_rfl) (by kernel_rfl) (fun _ _ _ h => h) (Or.inl ⟨by rfl, ?_⟩) ?_
              rotate_left
              · (intro w; go_simp; (try with_reducible rfl))
              simp only [Act.put, List.getElem_toArray, List.getElem_cons_succ, List.getElem_cons_zero, List.setIfInBounds_toArray, List.set_cons_zero, List.set_cons_succ]
              refine wpAny_ready (rs := [14]) (by kernel_rfl) (by simp) ?_
              refine AllReady.cons (o := _) rfl (fun K hK => ?_) AllReady.nil
              refine step_store_mid rfl 34 _ _ rfl S 0 vs rfl rfl TH.out (by rw [HV.out.2.1]; exact size_words) HV.out.2.2 ?_
              simp only [Act.put, List.getElem_toArray, List.getElem_cons_succ, List.getElem_cons_zero, List.setIfInBounds_toArray, List.set_cons_zero, List.set_cons_succ]
              refine hK _ _ ?_
              clear hK K
              rw [HX.out]
              try simp only [Act.put, List.getElem_toArray, List.getElem_cons_succ, List.getElem_cons_zero, List.setIfInBounds_toArray, List.set_cons_zero, List.set_cons_succ]
              refine wpAny_take (i := 15) (oi := _) (v := ?_) rfl (by kernel_rfl) (by kernel_rfl) (by kernel_rfl) (fun _ _ _ h => h) (Or.inl ⟨by rfl, ?_⟩) ?_
              rotate_left
              · (intro w; go_simp; (try with_reducible rfl))
              simp only [Act.put, List.getElem_toArray, List.getElem_cons_succ, List.getElem_cons_zero, List.setIfInBounds_toArray, List.set_cons_zero, List.set_cons_succ]
              refine wpAny_take (i := 16) (oi := _) (v := ?_) rfl (by kernel_rfl) (by kernel_rfl) (by kernel_rfl) (fun _ _ _ h => h) (Or.inl ⟨by rfl, ?_⟩) ?_
              rotate_left
              · (intro w; go_simp; (try with_reducible rfl))
              simp only [Act.put, List.getElem_toArray, List.getElem_cons_succ, List.getElem_cons_zero, List.setIfInBounds_toArray, List.set_cons_zero, List.set_cons_succ]
              refine wpAny_ready (rs := [17]) (by kernel_rfl) (by simp) ?_
              refine AllReady.cons (o := _) rfl (fun K hK => ?_) AllReady.nil
              go_simp
              refine hK _ _ ?_
              clear hK K
              refine wpAny_done (by kernel_rfl) ?_ _
              go_wp2
              go_roundw
              case rel => exact ⟨q ++ r.take k, r.drop k, SA, m - k, c' - k, rfl, by omega, by omega, by omega, HQ.out⟩
              case measure => simp only [slLen]; omega
            refine AllReady.cons (o := _) rfl (fun K hK => ?_) AllReady.nil
            refine step_load_mid rfl 36 _ rfl S 8 rfl rs _ RG.out.2.1 Try.underlying36 rfl RG.out.2.2.2.1 ?_
            simp only [Act.put, List.getElem_toArray, List.getElem_cons_succ, List.getElem_cons_zero, List.setIfInBounds_toArray, List.set_cons_zero, List.set_cons_succ]
            refine hK _ _ ?_
            clear hK K
            try simp only [Act.put, List.getElem_toArray, List.getElem_cons_succ, List.getElem_cons_zero, List.setIfInBounds_toArray, List.set_cons_zero, List.set_cons_succ]
            refine wpAny_ready (rs := [5]) (by kernel_rfl) (by simp) ?_
            refine AllReady.cons (o := _) rfl (fun K hK => ?_) AllReady.nil
            refine step_load_mid rfl 34 _ rfl S 0 rfl us _ RG.out.1 Try.underlying34 rfl RG.out.2.2.2.2.2 ?_
            simp only [Act.put, List.getElem_toArray, List.getElem_cons_succ, List.getElem_cons_zero, List.setIfInBounds_toArray, List.set_cons_zero, List.set_cons_succ]
            refine hK _ _ ?_
            clear hK K
            try simp only [Act.put, List.getElem_toArray, List.getElem_cons_succ, List.getElem_cons_zero, List.setIfInBounds_toArray, List.set_cons_zero, List.set_cons_succ]
            refine wpAny_ready (rs := [11]) (by kernel_rfl) (by simp) ?_
            refine AllReady.cons (o := _) rfl (fun K hK => ?_) AllReady.nil
            go_simp
            refine (CS.out _).mono ?_
            rintro e w9 ⟨rfl, hb9⟩
            have A9 := HN.out.1.drew.below hb9
            have TH : Hid (w9.there S 0 vs.size) := A9.there 0 _ (by rw [HV.out.2.1]; have h7 : u.list.length = 8 := rfl; simp [stCells]; omega)
            have A10 : ArrIs (w9.setCells S 0 vs.toList) S 39 (stCells (blockW u K0 rb2) rb2 64 t' true) := by rw [HV.out.1]; exact st_setSum A9 _
            have c10 := st_at A10 HN.out.2.1 0 _ rfl
            have f10 := A10.free 72
            have HO : Hid (OpenSt ((w9.setCells S 0 vs.toList).setCell ⟨S, 72, none⟩ (.int .i64 0)) S (p ++ (q ++ r.take k).map UInt8.toNat) t') := HN.out.2.2.2.2 _ (st_setFill A10 HN.out.2.1 0)
            have hgr : w8.grownBy ((w9.setCells S 0 vs.toList).setCell ⟨S, 72, none⟩ (.int .i64 0)) (some S) := grown_tr (grown_cells S _ 0 _ (grown_of_below (kp_call (Below.refl _ _).drew hb9) (Nat.le_refl _) _)) (grown_one _ _ _ _)
            have HQ : Hid ((r.drop k).length = m - k ∧ (q ++ r.take k) ++ r.drop k = bs ∧ OpenSt ((w9.setCells S 0 vs.toList).setCell ⟨S, 72, none⟩ (.int .i64 0)) S (p ++ (q ++ r.take k).map UInt8.toNat) t' ∧ Src ((w9.setCells S 0 vs.toList).setCell ⟨S, 72, none⟩ (.int .i64 0)) S SA (r.drop k) ∧ w.grownBy ((w9.setCells S 0 vs.toList).setCell ⟨S, 72, none⟩ (.int .i64 0)) (some S) ∧ ArrIs ((w9.setCells S 0 vs.toList).setCell ⟨S, 72, none⟩ (.int .i64 0)) G 59 (K0.map v32)) :=
              ⟨HM.out.1, HM.out.2.1, HO.out, HM.out.2.2.1.kept hgr, grown_tr HM.out.2.2.2.1 hgr, (ArrIs.farCells (by omega) _ _ _ (HM.out.2.2.2.2.drew.below hb9)).far (by omega)⟩
            clear hgr A9 A10 hb9 HO
            obtain ⟨wx, hwx⟩ : ∃ wx, w9.setCells S 0 vs.toList = wx := ⟨_, rfl⟩
            rw [hwx] at c10 f10 HQ
            have HX := Lib.hid hwx
            clear hwx
            go_wp2_with fail
            try refine hK _ _ ?_
            try clear hK K
            try simp only [Act.put, List.getElem_toArray, List.getElem_cons_succ, List.getElem_cons_zero, List.setIfInBounds_toArray, List.set_cons_zero, List.set_cons_succ]
            refine wpAny_take (i := 12) (oi := _) (v := ?_) rfl (by kernel_rfl) (by kernel_rfl) (by kernel_rfl) (fun _ _ _ h => h) (Or.inl ⟨by rfl, ?_⟩) ?_
            rotate_left
            · (intro w; go_simp; (try with_reducible rfl))
            simp only [Act.put, List.getElem_toArray, List.getElem_cons_succ, List.getElem_cons_zero, List.setIfInBounds_toArray, List.set_cons_zero, List.set_cons_succ]
            refine wpAny_take (i := 13) (oi := _) (v := ?_) rfl (by kernel_rfl) (by kernel_rfl) (by kernel_rfl) (fun _ _ _ h => h) (Or.inl ⟨by rfl, ?_⟩) ?_
            rotate_left
            · (intro w; go_simp; (try with_reducible rfl))
            simp only [Act.put, List.getElem_toArray, List.getElem_cons_succ, List.getElem_cons_zero, List.setIfInBounds_toArray, List.set_cons_zero, List.set_cons_succ]
            refine wpAny_ready (rs := [14]) (by kernel_rfl) (by simp) ?_
            refine AllReady.cons (o := _) rfl (fun K hK => ?_) AllReady.nil
            refine step_store_mid rfl 34 _ _ rfl S 0 vs rfl rfl TH.out (by rw [HV.out.2.1]; exact size_words) HV.out.2.2 ?_
            simp only [Act.put, List.getElem_toArray, List.getElem_cons_succ, List.getElem_cons_zero, List.setIfInBounds_toArray, List.set_cons_zero, List.set_cons_succ]
            refine hK _ _ ?_
            clear hK K
            rw [HX.out]
            try simp only [Act.put, List.getElem_toArray, List.getElem_cons_succ, List.getElem_cons_zero, List.setIfInBounds_toArray, List.set_cons_zero, List.set_cons_succ]
            refine wpAny_take (i := 15) (oi := _) (v := ?_) rfl (by kernel_rfl) (by kernel_rfl) (by kernel_rfl) (fun _ _ _ h => h) (Or.inl ⟨by rfl, ?_⟩) ?_
            rotate_left
            · (intro w; go_simp; (try with_reducible rfl))
            simp only [Act.put, List.getElem_toArray, List.getElem_cons_succ, List.getElem_cons_zero, List.setIfInBounds_toArray, List.set_cons_zero, List.set_cons_succ]
            refine wpAny_take (i := 16) (oi := _) (v := ?_) rfl (by kernel_rfl) (by kernel_rfl) (by kernel_rfl) (fun _ _ _ h => h) (Or.inl ⟨by rfl, ?_⟩) ?_
            rotate_left
            · (intro w; go_simp; (try with_reducible rfl))
            simp only [Act.put, List.getElem_toArray, List.getElem_cons_succ, List.getElem_cons_zero, List.setIfInBounds_toArray, List.set_cons_zero, List.set_cons_succ]
            refine wpAny_ready (rs := [17]) (by kernel_rfl) (by simp) ?_
            refine AllReady.cons (o := _) rfl (fun K hK => ?_) AllReady.nil
            go_simp
            refine hK _ _ ?_
            clear hK K
            refine wpAny_done (by kernel_rfl) ?_ _
            go_wp2
            go_roundw
            case rel => exact ⟨q ++ r.take k, r.drop k, SA, m - k, c' - k, rfl, by omega, by omega, by omega, HQ.out⟩
            case measure => simp only [slLen]; omega
          · have h6 := open_part (w := wr.drew) (cs := cs) hf hu hA.drew hr hb htk hcb (by omega)
            rw [hcl] at h6
            have HN : Hid ((r.drop k).length = m - k ∧ (q ++ r.take k) ++ r.drop k = bs ∧ OpenSt ((wr.drew.setCells S (8 + f2) (cs.map v8)).setCell ⟨S, 72, none⟩ (.int .i64 ((f2 : Int) + (k : Int)))) S (p ++ (q ++ r.take k).map UInt8.toNat) t' ∧ Src ((wr.drew.setCells S (8 + f2) (cs.map v8)).setCell ⟨S, 72, none⟩ (.int .i64 ((f2 : Int) + (k : Int)))) S SA (r.drop k) ∧ w.grownBy ((wr.drew.setCells S (8 + f2) (cs.map v8)).setCell ⟨S, 72, none⟩ (.int .i64 ((f2 : Int) + (k : Int)))) (some S) ∧ ArrIs ((wr.drew.setCells S (8 + f2) (cs.map v8)).setCell ⟨S, 72, none⟩ (.int .i64 ((f2 : Int) + (k : Int)))) G 59 (K0.map v32)) :=
              ⟨hq3, hq2, by rw [hq1]; exact h6, s7, g7, a7⟩
            obtain ⟨wk, hwk⟩ : ∃ wk, wr.drew.setCells S (8 + f2) (cs.map v8) = wk := ⟨_, rfl⟩
            rw [hwk] at hcp c7 f7 HN
            have t1 : ((f2 : Int) + (k : Int) == 64) = false := by simp; omega
            have c6 := HC6.out
            clear hwk h6 h5 g7 g8 a7 s7 hq1 hq2 hq3 hcl hcb hcs hsrc HL l1 l2 l3 l4 l5 l6 hf hu hA hr hb htk hcell hk hfl HC6
            go_wp2_with fail
            go_region
            all_goals
              go_wp2
              go_roundw
              case rel => exact ⟨q ++ r.take k, r.drop k, SA, m - k, c' - k, rfl, by omega, by omega, by omega, HN.out⟩
              case measure => simp only [slLen]; omega
end Go.Proofs.Ytmbkbehccmadfaa
