/-
  sha: a state that holds bytes, and what a copy makes of it.
-/
import Derived.Test.YtcedojmhgmgcgaaGreatDoorMs4
import Derived.Deep.RegionWith
import Derived.Deep.QuietTactic
import Derived.BigQuiet
import Derived.BigRegion
import Derived.Laws.Tables
import Derived.Laws.CopyOwn
import Derived.Deep.Cut
import Derived.Deep.CutRange
import Derived.Deep.DeepCutAuto
import Derived.Deep.LoopGhost
import Derived.Test.YtcedojmhgmgcgaaGreatDoorMs4
namespace Go.Proofs.YtcedojmhgmgcgaaGreatDoor
open Go.RowKit Go
set_option linter.unusedVariables false
set_option linter.unusedSimpArgs false
set_option maxRecDepth 100000
/-- A state that holds the bytes p, begun or not. -/
def Holds (w : World) (S : Nat) (p : List Nat) (total : Nat) : Prop :=
  OpenSt w S p total ∨ (p = [] ∧ ∃ u rb, ArrIs w S 79 (stCells u rb 0 total false) ∧ rb.length = 64 ∧ ∀ x ∈ rb, x < 256)
theorem size_words : (Tryz.prog.info? 75).map (·.size) = some 8 := by kernel_rfl
theorem size_block : (Tryz.prog.info? 77).map (·.size) = some 64 := by kernel_rfl
theorem size_k64 : (Tryz.prog.info? 81).map (·.size) = some 64 := by kernel_rfl
theorem OpenSt.opens {w : World} {S : Nat} {p : List Nat} {t : Nat} (h : OpenSt w S p t) : ∃ rb f u, p.length % 64 = f ∧ hashN H0v p (p.length / 64) = u ∧ f < 64 ∧ ArrIs w S 79 (stCells u rb f t true) ∧ rb.length = 64 ∧ (∀ x ∈ rb, x < 256) ∧ rb.take f = p.drop (64 * (p.length / 64)) := by
  obtain ⟨rb, h1, h2, h3, h4⟩ := h
  exact ⟨rb, _, _, rfl, rfl, Nat.mod_lt _ (by decide), h1, h2, h3, h4⟩
section
variable {w : World} {S : Nat} {p rb cs : List Nat} {f t : Nat} {u : V8}
theorem open_part (hf : p.length % 64 = f) (hu : hashN H0v p (p.length / 64) = u) (hA : ArrIs w S 79 (stCells u rb f t true)) (hr : rb.length = 64) (hb : ∀ x ∈ rb, x < 256) (htk : rb.take f = p.drop (64 * (p.length / 64)))
    (hc : ∀ x ∈ cs, x < 256) (hk : f + cs.length < 64) :
    OpenSt ((w.setCells S (8 + f) (cs.map v8)).setCell ⟨S, 72, none⟩ (.int .i64 ((f : Int) + (cs.length : Int)))) S (p ++ cs) t := by
  subst hf hu
  obtain ⟨e1, e2, e3⟩ := more_part p cs hk
  have h1 := st_setRest hA (p.length % 64) cs (by omega)
  have hl := restIn_len rb cs (p.length % 64) (by omega)
  have h2 := st_setFill h1 (hl.trans hr) (p.length % 64 + cs.length)
  refine ⟨restIn rb (p.length % 64) cs, ?_, by rw [hl, hr], restIn_byte _ _ _ hb hc, ?_⟩
  · rw [e1, e2, e3]
    exact_mod_cast h2
  · rw [e1, e2]
    exact rest_more p cs rb hr htk (by omega)
/-- The rest is full. -/
theorem open_full (hf : p.length % 64 = f) (hu : hashN H0v p (p.length / 64) = u) (hA : ArrIs w S 79 (stCells u rb f t true)) (hr : rb.length = 64) (hb : ∀ x ∈ rb, x < 256) (htk : rb.take f = p.drop (64 * (p.length / 64)))
    (hc : ∀ x ∈ cs, x < 256) (hk : f + cs.length = 64) :
    ∃ rb', ArrIs ((w.setCells S (8 + f) (cs.map v8)).setCell ⟨S, 72, none⟩ (.int .i64 64)) S 79 (stCells u rb' 64 t true) ∧ rb'.length = 64 ∧ (∀ x ∈ rb', x < 256) ∧ u.Ok ∧
      ∀ w', ArrIs w' S 79 (stCells (blockW u K0 rb') rb' 0 t true) → OpenSt w' S (p ++ cs) t := by
  subst hf hu
  obtain ⟨e1, e2, e3⟩ := more_full p cs rb hr htk hk
  have h1 := st_setRest hA (p.length % 64) cs (by omega)
  have hl := restIn_len rb cs (p.length % 64) (by omega)
  have h2 := st_setFill h1 (hl.trans hr) 64
  refine ⟨restIn rb (p.length % 64) cs, h2, by rw [hl, hr], restIn_byte _ _ _ hb hc, hashN_ok _ _ H0v_ok _, fun w' h' => ⟨restIn rb (p.length % 64) cs, ?_, by rw [hl, hr], restIn_byte _ _ _ hb hc, ?_⟩⟩
  · rw [e1, e2, e3]
    exact h'
  · rw [e1, e2, List.take_zero]
    rw [List.drop_eq_nil_of_le]
    simp
    omega
end
theorem src_cut {w : World} {S b off m k : Nat} {r : List UInt8} (h : Src w S (some ⟨b, off, none⟩) r) (hm : r.length = m) (c : Nat) (hmc : m ≤ c) : Src w S (if c = k then some ⟨b, off, none⟩ else some ⟨b, off + k, none⟩) (r.drop k) := fun hn => by
  have hk : k < r.length := by
    rcases Nat.lt_or_ge k r.length with h1 | h1
    · exact h1
    · exact absurd (List.drop_eq_nil_of_le h1) hn
  rw [if_neg (by omega)]
  have := h.drop_ k
  rw [Option.map_some, Addr.add_mid] at this
  exact this hn
def slLen : Value → Nat
  | .slice _ n _ => n
  | _ => 0
theorem take_min {α : Type} (r : List α) (m d k : Nat) (hm : r.length = m) (hk : k = min m d) : r.take d = r.take k := by
  rcases Nat.le_total m d with h | h
  · rw [List.take_of_length_le (by omega), List.take_of_length_le (by omega)]
  · rw [show k = d by omega]
theorem bytes_lt (l : List UInt8) : ∀ x ∈ l.map UInt8.toNat, x < 256 := fun x hx => by
  obtain ⟨y, _, rfl⟩ := List.mem_map.1 hx
  exact y.toNat_lt
theorem step_load_mid {P : Program} {ops : Array Oper} {o : Oper} {a : Act} {w : World} {K : Act → World → Prop} {Q : Exit → Act → World → Prop} {E : Prop}
    (hg : o.guard = none) (ty : TypeId) (x : Operand) (ho : o.op = .load ty x) (b off : Nat) (hx : a.eval x = .pointer (some ⟨b, off, none⟩)) (cs : Array Value) (d : TypeDesc) (hc : w.rangeAt b off cs.toList)
    (hu : P.underlying ty = some d) (hd : d.isRow = true) (hi : (P.info? ty).map (·.size) = some cs.toList.length) (hK : K (a.put o.dst (.agg cs)) w) :
    if Region.wanted o (yielded ops a.tmps) = true then Oper.wp P o a w K Q else E := by
  have hw : Region.wanted o (yielded ops a.tmps) = true := by simp [Region.wanted, hg]
  rw [if_pos hw]
  exact wp_load_mid ty x ho b off hx cs.toList d hc hu hd hi hK
theorem step_store_mid {P : Program} {ops : Array Oper} {o : Oper} {a : Act} {w : World} {K : Act → World → Prop} {Q : Exit → Act → World → Prop} {E : Prop}
    (hg : o.guard = none) (ty : TypeId) (x y : Operand) (ho : o.op = .store ty x y) (b off : Nat) (cells : Array Value) (hx : a.eval x = .pointer (some ⟨b, off, none⟩)) (hy : a.eval y = .agg cells)
    (ht : w.there b off cells.size) (hi : (P.info? ty).map (·.size) = some cells.size) (h1 : cells.all (·.oneCell') = true) (hK : K (a.put o.dst undef) (w.setCells b off cells.toList)) :
    if Region.wanted o (yielded ops a.tmps) = true then Oper.wp P o a w K Q else E := by
  have hw : Region.wanted o (yielded ops a.tmps) = true := by simp [Region.wanted, hg]
  rw [if_pos hw]
  exact wp_store_mid ty x y ho b off cells hx hy ht hi h1 hK
end Go.Proofs.YtcedojmhgmgcgaaGreatDoor
namespace Go.Proofs.YtcedojmhgmgcgaaGreatDoor
open Go.RowKit Go
set_option linter.unusedVariables false
set_option linter.unusedSimpArgs false
set_option maxRecDepth 100000
set_option maxHeartbeats 4000000 in
theorem write_any (S : Nat) (A : Option Addr) (n c : Nat) (p : List Nat) (total : Nat) (bs : List UInt8) (w : World) (hH : Holds w S p total) (hs : Src w S A bs) (hn : bs.length = n) (hn1 : n ≤ 1000000000) (hnc : n ≤ c) (hc1 : c ≤ 9223372036854775807) (ht : total < 18446744073709551616) :
    Calls Tryz.prog 17 #[.pointer (some ⟨S, 0, none⟩), .slice A n c] w fun e w' => e = .returned (.tuple #[]) ∧ OpenSt w' S (p ++ bs.map UInt8.toNat) ((total + n) % 18446744073709551616) ∧ w.grownBy w' (some S) := by
  have FW := Lib.hid (fun W => firstWords_any W)
  rw [H0_eq] at FW
  obtain ⟨ds, hds⟩ : ∃ ds, (H0v.list.map v32).toArray = ds := ⟨_, rfl⟩
  rw [hds] at FW
  have hdl : ds.toList = H0v.list.map v32 := by rw [← hds]
  have hone : ds.all (·.oneCell') = true := by rw [← hds]; exact all32 _
  have hsz : ds.size = 8 := by rw [← hds]; rfl
  have hif : (Tryz.prog.info? 75).map (·.size) = some ds.size := by rw [hsz]; exact size_words
  have DS := Lib.hid (show _ ∧ _ ∧ _ ∧ _ from ⟨hdl, hone, hsz, hif⟩)
  clear hds hdl hone hsz hif
  have HSRC := Lib.hid hs
  have B1 : bs.length = n := hn
  obtain ⟨bg, HB⟩ : ∃ bg, Hid ((bg = true ∧ OpenSt w S p total) ∨ (bg = false ∧ p = [] ∧ ∃ u rb, ArrIs w S 79 (stCells u rb 0 total false) ∧ rb.length = 64 ∧ ∀ x ∈ rb, x < 256)) := by
    rcases hH with h | h
    · exact ⟨true, Or.inl ⟨rfl, h⟩⟩
    · exact ⟨false, Or.inr ⟨rfl, h⟩⟩
  have c4 : w.cell? ⟨S, 74, none⟩ = some (.bool bg) := by
    rcases HB.out with ⟨rfl, rb, hA, hr, hb, htk⟩ | ⟨rfl, rfl, u, rb, hA, hr, hb⟩
    · exact st_at hA hr 2 (.bool true) rfl
    · exact st_at hA hr 2 (.bool false) rfl
  clear hH hs
  obtain ⟨t', ht'⟩ : ∃ t', (total + n) % 18446744073709551616 = t' := ⟨_, rfl⟩
  rw [ht']
  have HT := Lib.hid ht'
  clear ht'
  go_enter Tryz.func17, Tryz.ntmps17
  go_upto_if 12 with (fail)
  go_cut [12] (fun s12 wx => OpenSt wx S p total ∧ w.grownBy wx (some S))
  case first => as_aux_lemma =>
    rcases HB.out with ⟨rfl, ho⟩ | ⟨rfl, rfl, u, rb, hA, hr, hb⟩
    · have HO := Lib.hid ho
      clear ho HB FW
      go_wp2_with fail
      go_meet
      exact ⟨HO.out, grown_of_below (Below.refl _ _) (Nat.le_refl _) _⟩
    · have HA := Lib.hid hA
      have HR := Lib.hid (And.intro hr hb)
      clear hA hr hb HB
      go_wp2_with fail
      refine (FW.out _).mono ?_
      rintro e w2 ⟨rfl, hb2⟩
      obtain ⟨d1, d2, d3, d4⟩ := DS.out
      have A2 := ArrIs.below HA.out hb2
      have TH : Hid (w2.there S 0 ds.size) := A2.there 0 _ (by rw [d3]; have h7 : u.list.length = 8 := rfl; simp [stCells]; omega)
      have A3 : ArrIs (w2.setCells S 0 ds.toList) S 79 (stCells H0v rb 0 total false) := by rw [d1]; exact st_setSum A2 H0v
      have c5 := st_at A3 HR.out.1 2 (.bool false) rfl
      have f5 := A3.free 74
      have A4 := st_setBegun A3 HR.out.1 true
      have HO : Hid (OpenSt ((w2.setCells S 0 ds.toList).setCell ⟨S, 74, none⟩ (.bool true)) S [] total) := ⟨rb, A4, HR.out.1, HR.out.2, rfl⟩
      have HG : Hid (w.grownBy ((w2.setCells S 0 ds.toList).setCell ⟨S, 74, none⟩ (.bool true)) (some S)) := grown_tr (grown_cells S _ 0 _ (grown_of_below hb2 (Nat.le_refl _) _)) (grown_one _ _ _ _)
      have D := Lib.hid (And.intro d4 d2)
      clear d1 d2 d3 d4 A2 A3 A4 hb2 HA FW DS
      obtain ⟨w3, hw3⟩ : ∃ w3, w2.setCells S 0 ds.toList = w3 := ⟨_, rfl⟩
      have HW3 := Lib.hid hw3
      rw [hw3] at c5 f5 HO HG
      clear hw3
      go_wp2_with (refine wpList_store_mid rfl _ _ _ rfl S 0 ds rfl rfl TH.out D.out.1 D.out.2 ?_; rw [HW3.out])
      go_meet
      exact ⟨HO.out, HG.out⟩
  case rest => as_aux_lemma =>
    obtain ⟨ho, hg⟩ := hcut
    have HG := Lib.hid hg
    have hs1 := Lib.hid (HSRC.out.kept hg)
    obtain ⟨rb, f, u, hf, hu, hf64, hA, hr, hb, htk⟩ := ho.opens
    have HO := Lib.hid ho
    clear hg ho HSRC HB c4 FW DS
    have ht' := HT.out
    have c5 := st_at hA hr 1 (.int .u64 (total : Int)) rfl
    have f5 := hA.free 73
    have A4 := st_setTotal hA hr t'
    have e1 : IntKind.u64.wrap (n : Int) = (n : Int) := by rw [IntKind.wrap_u64]; omega
    have e2 : IntKind.u64.wrap ((total : Int) + (n : Int)) = (t' : Int) := by rw [IntKind.wrap_u64]; omega
    have e3 : IntKind.i64.wrap ((f : Int) + (n : Int)) = (f : Int) + (n : Int) := IntWalk.i64_in _ (by omega)
    have e4 : ((total : Int) + (n : Int)) % 18446744073709551616 = (t' : Int) := by omega
    clear ht'
    by_cases hsm : (f : Int) + (n : Int) < 64
    · have O4 : Hid (OpenSt (wc.setCell ⟨S, 73, none⟩ (.int .u64 (t' : Int))) S p t') := ⟨rb, by rw [hu, hf]; exact A4, hr, hb, by rw [hf]; exact htk⟩
      have G4 : Hid (w.grownBy (wc.setCell ⟨S, 73, none⟩ (.int .u64 (t' : Int))) (some S)) := grown_tr HG.out (grown_one _ _ _ _)
      have hs4 : Hid (Src (wc.setCell ⟨S, 73, none⟩ (.int .u64 (t' : Int))) S A bs) := hs1.out.kept (grown_one _ _ _ _)
      have c6 := st_at A4 hr 0 (.int .i64 (f : Int)) rfl
      have H4 := Lib.hid (show _ ∧ _ ∧ _ ∧ _ ∧ _ ∧ _ from ⟨hf, hu, A4, hr, hb, htk⟩)
      clear hf hu A4 hr hb htk hA HG HO hs1
      go_wp2_with fail
      obtain ⟨w4, hw4⟩ : ∃ w4, wc.setCell ⟨S, 73, none⟩ (.int .u64 (t' : Int)) = w4 := ⟨_, rfl⟩
      rw [hw4] at c6 O4 G4 hs4 H4 ⊢
      clear hw4 c5 f5 e1 e2 e4
      have i1 : 0 ≤ (f : Int) := by omega
      have i2 : (f : Int) ≤ 64 := by omega
      have i3 : ¬ 64 = f := by omega
      have hW : ∃ wc, (Builtin.copy_ #[22, 22] 3 #[.slice (some ⟨S, 8 + f, none⟩) (64 - f) (64 - f), .slice A n c]).run Tryz.prog w4.drew = .ok (.int .i64 (n : Int)) wc ∧ wc.cell? ⟨S, 72, none⟩ = some (.int .i64 (f : Int)) ∧ wc.frozen? ⟨S, 72, none⟩ = false ∧
          OpenSt (wc.setCell ⟨S, 72, none⟩ (.int .i64 ((f : Int) + (n : Int)))) S (p ++ bs.map UInt8.toNat) t' ∧ w.grownBy (wc.setCell ⟨S, 72, none⟩ (.int .i64 ((f : Int) + (n : Int)))) (some S) := by
        obtain ⟨g1, g2, g3, g4, g5, g6⟩ := H4.out
        have hr1 := run_cpy_part w4.drew S (8 + f) (64 - f) (64 - f) n c A bs 79 _ g3.drew (by have h7 : u.list.length = 8 := rfl; simp [stCells]; omega) hs4.out B1 3
        rw [List.take_of_length_le (by omega), show min n (64 - f) = n by omega] at hr1
        have hl : (bs.map UInt8.toNat).length = n := by simp [B1]
        have h5 := st_setRest (w := w4.drew) g3.drew f (bs.map UInt8.toNat) (by omega)
        have h6 := open_part (w := w4.drew) (cs := bs.map UInt8.toNat) g1 g2 g3.drew g4 g5 g6 (bytes_lt _) (by omega)
        rw [hl] at h6
        refine ⟨_, hr1, st_at h5 (by simp; omega) 0 _ rfl, h5.free _, h6, grown_tr (grown_cells S _ _ _ (grown_tr G4.out (grown_of_below (Below.refl _ _).drew (Nat.le_refl _) _))) (grown_one _ _ _ _)⟩
      obtain ⟨wc, hcp, c7, f7, O7, G7⟩ := hW
      have O7 := Lib.hid O7
      have G7 := Lib.hid G7
      clear H4 hs4
      go_region
      all_goals
        go_wp2
        refine bodyPost_ret (results_none rfl _ _ _) rfl ?_
        exact ⟨rfl, O7.out, G7.out⟩
    · have O4 : Hid (OpenSt (wc.setCell ⟨S, 73, none⟩ (.int .u64 (t' : Int))) S p t') := ⟨rb, by rw [hu, hf]; exact A4, hr, hb, by rw [hf]; exact htk⟩
      have G4 : Hid (w.grownBy (wc.setCell ⟨S, 73, none⟩ (.int .u64 (t' : Int))) (some S)) := grown_tr HG.out (grown_one _ _ _ _)
      have hs4 : Hid (Src (wc.setCell ⟨S, 73, none⟩ (.int .u64 (t' : Int))) S A bs) := hs1.out.kept (grown_one _ _ _ _)
      have c6 := st_at A4 hr 0 (.int .i64 (f : Int)) rfl
      obtain ⟨ks, hks⟩ : ∃ ks, (K0.map v32).toArray = ks := ⟨_, rfl⟩
      have hkl : ks.toList = K0.map v32 := by rw [← hks]
      have hkone : ks.all (·.oneCell') = true := by rw [← hks]; exact all32 _
      have hksz : ks.size = 64 := by rw [← hks]; simp [K0_len]
      have hkif : (Tryz.prog.info? 81).map (·.size) = some ks.size := by rw [hksz]; exact size_k64
      have KA := Lib.hid (fun W => constants_any W)
      rw [hks] at KA
      have KS := Lib.hid (show _ ∧ _ ∧ _ ∧ _ from ⟨hkl, hkone, hksz, hkif⟩)
      clear hf hu A4 hr hb htk hA HG HO hs1 hks hkl hkone hksz hkif
      go_wp2_with fail
      obtain ⟨w4, hw4⟩ : ∃ w4, wc.setCell ⟨S, 73, none⟩ (.int .u64 (t' : Int)) = w4 := ⟨_, rfl⟩
      rw [hw4] at c6 O4 G4 hs4 ⊢
      clear hw4 c5 f5 e1 e2 e4 e3
      refine (KA.out _).mono ?_
      rintro e w5 ⟨rfl, hb5⟩
      have O5 := Lib.hid (show OpenSt w5 S p t' from by obtain ⟨rb, h1, h2⟩ := O4.out; exact ⟨rb, h1.below hb5, h2⟩)
      have G5 := Lib.hid (grown_tr G4.out (grown_of_below hb5 (Nat.le_refl _) (some S)))
      have S5 := Lib.hid (hs4.out.kept (grown_of_below hb5 (Nat.le_refl _) (some S)))
      have hS5 : S < w5.heap.size := by obtain ⟨rb, h1, h2⟩ := O5.out; exact h1.lt
      clear KA hb5 O4 G4 hs4 c6
      go_wp2_with (refine wpList_store_row rfl _ _ _ rfl w5.heap.size ks rfl rfl _ _ (has_new w5 _) KS.out.2.2.2 (by rw [KS.out.2.2.1]; rfl) KS.out.2.1 ?_)
      refine wp_nm fun W2 hW2 => ?_
      obtain ⟨G, hG⟩ : ∃ G, w5.heap.size = G := ⟨_, rfl⟩
      have hb2 : Below w5.heap.size w5 W2 := by rw [← hW2]; exact below_setRow (kp_alloc (Below.refl _ _) _) (Nat.le_refl _) _
      have k2 : ArrIs W2 G 81 (K0.map v32) := by
        rw [← hW2, ← hG]
        unfold ArrIs
        rw [setRow_heap _ w5.heap.size _ _ _ _ (has_new w5 _), ← KS.out.1]
      have HL0 : Hid (OpenSt W2 S p t' ∧ Src W2 S A bs ∧ w.grownBy W2 (some S) ∧ ArrIs W2 G 81 (K0.map v32)) :=
        ⟨by obtain ⟨rb, h1, h2⟩ := O5.out; exact ⟨rb, h1.below hb2, h2⟩, S5.out.kept (grown_of_below hb2 (Nat.le_refl _) _), grown_tr G5.out (grown_of_below hb2 (Nat.le_refl _) _), k2⟩
      have hGS : S < G := by omega
      clear hW2 hb2 k2 O5 G5 S5 hS5
      rw [hG]
      clear hG
      simp only [Act.put]
      go_loopw [1, 5] (fun vb vn wl => ∃ (q r : List UInt8) (A' : Option Addr) (m c' : Nat), vb = .slice A' m c' ∧ m ≤ n ∧ m ≤ c' ∧ c' ≤ 9223372036854775807 ∧ Hid (r.length = m ∧ q ++ r = bs ∧ OpenSt wl S (p ++ q.map UInt8.toNat) t' ∧ Src wl S A' r ∧ w.grownBy wl (some S) ∧ ArrIs wl G 81 (K0.map v32))) (fun vb _ _ => slLen vb)
      case atStart => exact ⟨[], bs, A, n, c, rfl, Nat.le_refl _, hnc, hc1, B1, rfl, by simpa using HL0.out.1, HL0.out.2⟩
      case round =>
        obtain ⟨q, r, A', m, c', rfl, hmn, hmc, hcc, HL⟩ := hrel
        clear HL0
        by_cases h0 : m = 0
        · have i1 : ¬ (m : Int) > 0 := by omega
          have i2 : ¬ 0 < (m : Int) := by omega
          have HR : Hid (r = []) := List.eq_nil_of_length_eq_zero (by rw [HL.out.1, h0])
          clear h0
          go_wp2
          go_end0
          obtain ⟨l1, l2, l3, l4, l5, l6⟩ := HL.out
          rw [HR.out, List.append_nil] at l2
          exact ⟨rfl, by rw [← l2]; exact l3, l5⟩
        · obtain ⟨l1, l2, l3, l4, l5, l6⟩ := HL.out
          obtain ⟨rb, f2, u, hf, hu, hf64, hA, hr, hb, htk⟩ := l3.opens
          obtain ⟨b, off, rfl, hbS, hbl, hcell⟩ := l4 (by intro e; rw [e] at l1; simp at l1; omega)
          obtain ⟨k, hk⟩ : ∃ k, min m (64 - f2) = k := ⟨_, rfl⟩
          obtain ⟨SA, hSA⟩ : ∃ SA : Option Addr, (if c' = k then some ⟨b, off, none⟩ else some ⟨b, off + k, none⟩) = SA := ⟨_, rfl⟩
          have hsrc : Src wr S SA (r.drop k) := by rw [← hSA]; exact src_cut l4 l1 c' hmc
          have hcp := run_cpy_part wr.drew S (8 + f2) (64 - f2) (64 - f2) m c' (some ⟨b, off, none⟩) r 79 _ hA.drew (by have h7 : u.list.length = 8 := rfl; simp [stCells]; omega) l4 l1 3
          rw [take_min r m (64 - f2) k l1 hk.symm, hk] at hcp
          obtain ⟨cs, hcs⟩ : ∃ cs, (r.take k).map UInt8.toNat = cs := ⟨_, rfl⟩
          have hcl : cs.length = k := by rw [← hcs, List.length_map, List.length_take]; omega
          have hcb : ∀ x ∈ cs, x < 256 := by rw [← hcs]; exact bytes_lt _
          rw [hcs] at hcp
          have hq1 : p ++ (q ++ r.take k).map UInt8.toNat = (p ++ q.map UInt8.toNat) ++ cs := by rw [List.map_append, ← List.append_assoc, hcs]
          have hq2 : (q ++ r.take k) ++ r.drop k = bs := by rw [List.append_assoc, List.take_append_drop, l2]
          have hq3 : (r.drop k).length = m - k := by rw [List.length_drop, l1]
          have h5 := st_setRest (w := wr.drew) hA.drew f2 cs (by omega)
          have g7 : w.grownBy ((wr.drew.setCells S (8 + f2) (cs.map v8)).setCell ⟨S, 72, none⟩ (.int .i64 ((f2 : Int) + (k : Int)))) (some S) := grown_tr (grown_cells S _ _ _ (grown_tr l5 (grown_of_below (Below.refl _ _).drew (Nat.le_refl _) _))) (grown_one _ _ _ _)
          have g8 : wr.grownBy ((wr.drew.setCells S (8 + f2) (cs.map v8)).setCell ⟨S, 72, none⟩ (.int .i64 ((f2 : Int) + (k : Int)))) (some S) := grown_tr (grown_cells S _ _ _ (grown_of_below (Below.refl _ _).drew (Nat.le_refl _) _)) (grown_one _ _ _ _)
          have a7 : ArrIs ((wr.drew.setCells S (8 + f2) (cs.map v8)).setCell ⟨S, 72, none⟩ (.int .i64 ((f2 : Int) + (k : Int)))) G 81 (K0.map v32) := (ArrIs.farCells (by omega) _ _ _ l6.drew).far (by omega)
          have s7 := hsrc.kept g8
          have c7 := st_at h5 (by simp; omega) 0 _ rfl
          have f7 := h5.free 72
          have HC6 := Lib.hid (st_at hA hr 0 _ rfl)
          have i1 : (m : Int) > 0 := by omega
          have i2 : 0 < (m : Int) := by omega
          have i3 : 0 ≤ (f2 : Int) := by omega
          have i4 : (f2 : Int) ≤ 64 := by omega
          have i5 : ¬ 64 = f2 := by omega
          have i6 : (k : Int) ≤ (m : Int) := by omega
          have i7 : k ≤ m := by omega
          have i8 : 0 ≤ (k : Int) := by omega
          have i9 : 0 < k := by omega
          have e3 : IntKind.i64.wrap ((f2 : Int) + (k : Int)) = (f2 : Int) + (k : Int) := IntWalk.i64_in _ (by omega)
          by_cases hfl : f2 + k = 64
          · obtain ⟨rb2, hA2, hr2, hb2, huk, hO2⟩ := open_full (w := wr.drew) (cs := cs) hf hu hA.drew hr hb htk hcb (by omega)
            have hfl2 : (f2 : Int) + (k : Int) = 64 := by omega
            rw [← hfl2] at hA2
            obtain ⟨wk, hwk⟩ : ∃ wk, wr.drew.setCells S (8 + f2) (cs.map v8) = wk := ⟨_, rfl⟩
            rw [hwk] at hcp c7 f7 hA2 g7 a7 s7
            obtain ⟨w8, hw8⟩ : ∃ w8, wk.setCell ⟨S, 72, none⟩ (.int .i64 ((f2 : Int) + (k : Int))) = w8 := ⟨_, rfl⟩
            rw [hw8] at hA2 g7 a7 s7
            have W8 := Lib.hid hw8
            have t1 : ((f2 : Int) + (k : Int) == 64) = true := by rw [hfl2]; rfl
            have c8 := st_at hA2 hr2 0 _ rfl
            have HN : Hid (ArrIs w8 S 79 (stCells u rb2 64 t' true) ∧ rb2.length = 64 ∧ (∀ x ∈ rb2, x < 256) ∧ u.Ok ∧ (∀ w', ArrIs w' S 79 (stCells (blockW u K0 rb2) rb2 0 t' true) → OpenSt w' S (p ++ (q ++ r.take k).map UInt8.toNat) t')) := ⟨hA2, hr2, hb2, huk, fun w' h => by rw [hq1]; exact hO2 w' h⟩
            have HM : Hid ((r.drop k).length = m - k ∧ (q ++ r.take k) ++ r.drop k = bs ∧ Src w8 S SA (r.drop k) ∧ w.grownBy w8 (some S) ∧ ArrIs w8 G 81 (K0.map v32)) := ⟨hq3, hq2, s7, g7, a7⟩
            have c6 := HC6.out
            clear hwk hw8 h5 g7 g8 a7 s7 hq1 hq2 hq3 hcl hcb hcs hsrc HL l1 l2 l3 l4 l5 l6 hf hu hA hr hb htk hcell hk hfl HC6 hfl2 hA2 hr2 hb2 huk hO2
            go_wp2_with fail
            go_region
            go_upto_region 12 with (fail)
            rw [W8.out]
            obtain ⟨us, hus⟩ : ∃ us, (u.list.map v32).toArray = us := ⟨_, rfl⟩
            obtain ⟨rs, hrs⟩ : ∃ rs, (rb2.map v8).toArray = rs := ⟨_, rfl⟩
            obtain ⟨k2, hk2⟩ : ∃ k2, (K0.map v32).toArray = k2 := ⟨_, rfl⟩
            obtain ⟨vs, hvs⟩ : ∃ vs, ((blockW u K0 rb2).list.map v32).toArray = vs := ⟨_, rfl⟩
            have ul : us.toList = u.list.map v32 := by rw [← hus]
            have rl : rs.toList = rb2.map v8 := by rw [← hrs]
            have kl : k2.toList = K0.map v32 := by rw [← hk2]
            have rg1 : w8.drew.rangeAt S 0 us.toList := by rw [ul]; exact st_sum HN.out.1.drew
            have rg2 : w8.drew.rangeAt S 8 rs.toList := by rw [rl]; exact st_rest HN.out.1.drew
            have rg3 : w8.drew.rangeAt G 0 k2.toList := by
              rw [kl]
              refine ArrIs.rangeAt (t := 81) (pre := []) (post := []) ?_
              simpa using HM.out.2.2.2.2.drew
            have si1 : (Tryz.prog.info? 75).map (·.size) = some us.toList.length := by rw [ul]; exact size_words
            have si2 : (Tryz.prog.info? 77).map (·.size) = some rs.toList.length := by rw [rl, List.length_map, HN.out.2.1]; exact size_block
            have si3 : (Tryz.prog.info? 81).map (·.size) = some k2.toList.length := by rw [kl, List.length_map, K0_len]; exact size_k64
            have RG := Lib.hid (show _ ∧ _ ∧ _ ∧ _ ∧ _ ∧ _ from ⟨rg1, rg2, rg3, si2, si3, si1⟩)
            clear rg1 rg2 rg3 si1 si2 si3 ul rl kl
            have CS := Lib.hid (step_K0 u rb2 HN.out.2.2.2.1 HN.out.2.1 HN.out.2.2.1)
            rw [hus, hrs, hk2, hvs] at CS
            have HV := Lib.hid (show vs.toList = (blockW u K0 rb2).list.map v32 ∧ vs.size = 8 ∧ vs.all (·.oneCell') = true from ⟨by rw [← hvs], by rw [← hvs]; rfl, by rw [← hvs]; exact all32 _⟩)
            clear hvs hus hrs hk2
            refine wp_region_any (by kernel_rfl) ?_
            change wpAny _ _ _ _ _ _ _ (World.drew _)
            refine wpAny_take (i := 0) (oi := _) (v := ?_) rfl (by kernel_rfl) (by kernel_rfl) (by kernel_rfl) (fun _ _ _ h => h) (Or.inl ⟨by rfl, ?_⟩) ?_
            rotate_left
            · (intro w; go_simp; (try with_reducible rfl))
            simp only [Act.put, List.getElem_toArray, List.getElem_cons_succ, List.getElem_cons_zero, List.setIfInBounds_toArray, List.set_cons_zero, List.set_cons_succ]
            refine wpAny_take (i := 1) (oi := _) (v := ?_) rfl (by kernel_rfl) (by kernel_rfl) (by kernel_rfl) (fun _ _ _ h => h) (Or.inl ⟨by rfl, ?_⟩) ?_
            rotate_left
            · (intro w; go_simp; (try with_reducible rfl))
            simp only [Act.put, List.getElem_toArray, List.getElem_cons_succ, List.getElem_cons_zero, List.setIfInBounds_toArray, List.set_cons_zero, List.set_cons_succ]
            refine wpAny_take (i := 2) (oi := _) (v := ?_) rfl (by kernel_rfl) (by kernel_rfl) (by kernel_rfl) (fun _ _ _ h => h) (Or.inl ⟨by rfl, ?_⟩) ?_
            rotate_left
            · (intro w; go_simp; (try with_reducible rfl))
            simp only [Act.put, List.getElem_toArray, List.getElem_cons_succ, List.getElem_cons_zero, List.setIfInBounds_toArray, List.set_cons_zero, List.set_cons_succ]
            refine wpAny_take (i := 3) (oi := _) (v := ?_) rfl (by kernel_rfl) (by kernel_rfl) (by kernel_rfl) (fun _ _ _ h => h) (Or.inl ⟨by rfl, ?_⟩) ?_
            rotate_left
            · (intro w; go_simp; (try with_reducible rfl))
            simp only [Act.put, List.getElem_toArray, List.getElem_cons_succ, List.getElem_cons_zero, List.setIfInBounds_toArray, List.set_cons_zero, List.set_cons_succ]
            refine wpAny_take (i := 4) (oi := _) (v := ?_) rfl (by kernel_rfl) (by kernel_rfl) (by kernel_rfl) (fun _ _ _ h => h) (Or.inl ⟨by rfl, ?_⟩) ?_
            rotate_left
            · (intro w; go_simp; (try with_reducible rfl))
            simp only [Act.put, List.getElem_toArray, List.getElem_cons_succ, List.getElem_cons_zero, List.setIfInBounds_toArray, List.set_cons_zero, List.set_cons_succ]
            refine wpAny_take (i := 6) (oi := _) (v := ?_) rfl (by kernel_rfl) (by kernel_rfl) (by kernel_rfl) (fun _ _ _ h => h) (Or.inl ⟨by rfl, ?_⟩) ?_
            rotate_left
            · (intro w; go_simp; (try with_reducible rfl))
            simp only [Act.put, List.getElem_toArray, List.getElem_cons_succ, List.getElem_cons_zero, List.setIfInBounds_toArray, List.set_cons_zero, List.set_cons_succ]
            refine wpAny_take (i := 7) (oi := _) (v := ?_) rfl (by kernel_rfl) (by kernel_rfl) (by kernel_rfl) (fun _ _ _ h => h) (Or.inl ⟨by rfl, ?_⟩) ?_
            rotate_left
            · (intro w; go_simp; (try with_reducible rfl))
            simp only [Act.put, List.getElem_toArray, List.getElem_cons_succ, List.getElem_cons_zero, List.setIfInBounds_toArray, List.set_cons_zero, List.set_cons_succ]
            refine wpAny_take (i := 8) (oi := _) (v := ?_) rfl (by kernel_rfl) (by kernel_rfl) (by kernel_rfl) (fun _ _ _ h => h) (Or.inl ⟨by rfl, ?_⟩) ?_
            rotate_left
            · (intro w; go_simp; (try with_reducible rfl))
            simp only [Act.put, List.getElem_toArray, List.getElem_cons_succ, List.getElem_cons_zero, List.setIfInBounds_toArray, List.set_cons_zero, List.set_cons_succ]
            refine wpAny_ready (rs := [5, 9, 10]) (by kernel_rfl) (by simp) ?_
            refine AllReady.cons (o := _) rfl (fun K hK => ?_) ?_
            · refine step_load_mid rfl 75 _ rfl S 0 rfl us _ RG.out.1 Tryz.underlying75 rfl RG.out.2.2.2.2.2 ?_
              simp only [Act.put, List.getElem_toArray, List.getElem_cons_succ, List.getElem_cons_zero, List.setIfInBounds_toArray, List.set_cons_zero, List.set_cons_succ]
              refine hK _ _ ?_
              clear hK K
              try simp only [Act.put, List.getElem_toArray, List.getElem_cons_succ, List.getElem_cons_zero, List.setIfInBounds_toArray, List.set_cons_zero, List.set_cons_succ]
              refine wpAny_ready (rs := [9, 10]) (by kernel_rfl) (by simp) ?_
              refine AllReady.cons (o := _) rfl (fun K hK => ?_) ?_
              · refine step_load_mid rfl 77 _ rfl S 8 rfl rs _ RG.out.2.1 Tryz.underlying77 rfl RG.out.2.2.2.1 ?_
                simp only [Act.put, List.getElem_toArray, List.getElem_cons_succ, List.getElem_cons_zero, List.setIfInBounds_toArray, List.set_cons_zero, List.set_cons_succ]
                refine hK _ _ ?_
                clear hK K
                try simp only [Act.put, List.getElem_toArray, List.getElem_cons_succ, List.getElem_cons_zero, List.setIfInBounds_toArray, List.set_cons_zero, List.set_cons_succ]
                refine wpAny_ready (rs := [10]) (by kernel_rfl) (by simp) ?_
                refine AllReady.cons (o := _) rfl (fun K hK => ?_) AllReady.nil
                refine step_load_mid rfl 81 _ rfl G 0 rfl k2 _ RG.out.2.2.1 Tryz.underlying81 rfl RG.out.2.2.2.2.1 ?_
                simp only [Act.put, List.getElem_toArray, List.getElem_cons_succ, List.getElem_cons_zero, List.setIfInBounds_toArray, List.set_cons_zero, List.set_cons_succ]
                refine hK _ _ ?_
                clear hK K
                try simp only [Act.put, List.getElem_toArray, List.getElem_cons_succ, List.getElem_cons_zero, List.setIfInBounds_toArray, List.set_cons_zero, List.set_cons_succ]
                refine wpAny_ready (rs := [11]) (by kernel_rfl) (by simp) ?_
                refine AllReady.cons (o := _) rfl (fun K hK => ?_) AllReady.nil
                go_simp
                refine (CS.out _).mono ?_
                rintro e w9 ⟨rfl, hb9⟩
                have A9 := HN.out.1.drew.below hb9
                have TH : Hid (w9.there S 0 vs.size) := A9.there 0 _ (by rw [HV.out.2.1]; have h7 : u.list.length = 8 := rfl; simp [stCells]; omega)
                have A10 : ArrIs (w9.setCells S 0 vs.toList) S 79 (stCells (blockW u K0 rb2) rb2 64 t' true) := by rw [HV.out.1]; exact st_setSum A9 _
                have c10 := st_at A10 HN.out.2.1 0 _ rfl
                have f10 := A10.free 72
                have HO : Hid (OpenSt ((w9.setCells S 0 vs.toList).setCell ⟨S, 72, none⟩ (.int .i64 0)) S (p ++ (q ++ r.take k).map UInt8.toNat) t') := HN.out.2.2.2.2 _ (st_setFill A10 HN.out.2.1 0)
                have hgr : w8.grownBy ((w9.setCells S 0 vs.toList).setCell ⟨S, 72, none⟩ (.int .i64 0)) (some S) := grown_tr (grown_cells S _ 0 _ (grown_of_below (kp_call (Below.refl _ _).drew hb9) (Nat.le_refl _) _)) (grown_one _ _ _ _)
                have HQ : Hid ((r.drop k).length = m - k ∧ (q ++ r.take k) ++ r.drop k = bs ∧ OpenSt ((w9.setCells S 0 vs.toList).setCell ⟨S, 72, none⟩ (.int .i64 0)) S (p ++ (q ++ r.take k).map UInt8.toNat) t' ∧ Src ((w9.setCells S 0 vs.toList).setCell ⟨S, 72, none⟩ (.int .i64 0)) S SA (r.drop k) ∧ w.grownBy ((w9.setCells S 0 vs.toList).setCell ⟨S, 72, none⟩ (.int .i64 0)) (some S) ∧ ArrIs ((w9.setCells S 0 vs.toList).setCell ⟨S, 72, none⟩ (.int .i64 0)) G 81 (K0.map v32)) :=
                  ⟨HM.out.1, HM.out.2.1, HO.out, HM.out.2.2.1.kept hgr, grown_tr HM.out.2.2.2.1 hgr, (ArrIs.farCells (by omega) _ _ _ (HM.out.2.2.2.2.drew.below hb9)).far (by omega)⟩
                clear hgr A9 A10 hb9 HO
                obtain ⟨wx, hwx⟩ : ∃ wx, w9.setCells S 0 vs.toList = wx := ⟨_, rfl⟩
                rw [hwx] at c10 f10 HQ
                have HX := Lib.hid hwx
                clear hwx
                go_wp2_with fail
                try refine hK _ _ ?_
                try clear hK K
                try simp only [Act.put, List.getElem_toArray, List.getElem_cons_succ, List.getElem_cons_zero, List.setIfInBounds_toArray, List.set_cons_zero, List.set_cons_succ]
                refine wpAny_take (i := 12) (oi := _) (v := ?_) rfl (by kernel_rfl) (by kernel_rfl) (by kernel_rfl) (fun _ _ _ h => h) (Or.inl ⟨by rfl, ?_⟩) ?_
                rotate_left
                · (intro w; go_simp; (try with_reducible rfl))
                simp only [Act.put, List.getElem_toArray, List.getElem_cons_succ, List.getElem_cons_zero, List.setIfInBounds_toArray, List.set_cons_zero, List.set_cons_succ]
                refine wpAny_take (i := 13) (oi := _) (v := ?_) rfl (by kernel_rfl) (by kernel_rfl) (by kernel_rfl) (fun _ _ _ h => h) (Or.inl ⟨by rfl, ?_⟩) ?_
                rotate_left
                · (intro w; go_simp; (try with_reducible rfl))
                simp only [Act.put, List.getElem_toArray, List.getElem_cons_succ, List.getElem_cons_zero, List.setIfInBounds_toArray, List.set_cons_zero, List.set_cons_succ]
                refine wpAny_ready (rs := [14]) (by kernel_rfl) (by simp) ?_
                refine AllReady.cons (o := _) rfl (fun K hK => ?_) AllReady.nil
                refine step_store_mid rfl 75 _ _ rfl S 0 vs rfl rfl TH.out (by rw [HV.out.2.1]; exact size_words) HV.out.2.2 ?_
                simp only [Act.put, List.getElem_toArray, List.getElem_cons_succ, List.getElem_cons_zero, List.setIfInBounds_toArray, List.set_cons_zero, List.set_cons_succ]
                refine hK _ _ ?_
                clear hK K
                rw [HX.out]
                try simp only [Act.put, List.getElem_toArray, List.getElem_cons_succ, List.getElem_cons_zero, List.setIfInBounds_toArray, List.set_cons_zero, List.set_cons_succ]
                refine wpAny_take (i := 15) (oi := _) (v := ?_) rfl (by kernel_rfl) (by kernel_rfl) (by kernel_rfl) (fun _ _ _ h => h) (Or.inl ⟨by rfl, ?_⟩) ?_
                rotate_left
                · (intro w; go_simp; (try with_reducible rfl))
                simp only [Act.put, List.getElem_toArray, List.getElem_cons_succ, List.getElem_cons_zero, List.setIfInBounds_toArray, List.set_cons_zero, List.set_cons_succ]
                refine wpAny_take (i := 16) (oi := _) (v := ?_) rfl (by kernel_rfl) (by kernel_rfl) (by kernel_rfl) (fun _ _ _ h => h) (Or.inl ⟨by rfl, ?_⟩) ?_
                rotate_left
                · (intro w; go_simp; (try with_reducible rfl))
                simp only [Act.put, List.getElem_toArray, List.getElem_cons_succ, List.getElem_cons_zero, List.setIfInBounds_toArray, List.set_cons_zero, List.set_cons_succ]
                refine wpAny_ready (rs := [17]) (by kernel_rfl) (by simp) ?_
                refine AllReady.cons (o := _) rfl (fun K hK => ?_) AllReady.nil
                go_simp
                refine hK _ _ ?_
                clear hK K
                refine wpAny_done (by kernel_rfl) ?_ _
                go_wp2
                go_roundw
                case rel => exact ⟨q ++ r.take k, r.drop k, SA, m - k, c' - k, rfl, by omega, by omega, by omega, HQ.out⟩
                case measure => simp only [slLen]; omega
              refine AllReady.cons (o := _) rfl (fun K hK => ?_) AllReady.nil
              refine step_load_mid rfl 81 _ rfl G 0 rfl k2 _ RG.out.2.2.1 Tryz.underlying81 rfl RG.out.2.2.2.2.1 ?_
              simp only [Act.put, List.getElem_toArray, List.getElem_cons_succ, List.getElem_cons_zero, List.setIfInBounds_toArray, List.set_cons_zero, List.set_cons_succ]
              refine hK _ _ ?_
              clear hK K
              try simp only [Act.put, List.getElem_toArray, List.getElem_cons_succ, List.getElem_cons_zero, List.setIfInBounds_toArray, List.set_cons_zero, List.set_cons_succ]
              refine wpAny_ready (rs := [9]) (by kernel_rfl) (by simp) ?_
              refine AllReady.cons (o := _) rfl (fun K hK => ?_) AllReady.nil
              refine step_load_mid rfl 77 _ rfl S 8 rfl rs _ RG.out.2.1 Tryz.underlying77 rfl RG.out.2.2.2.1 ?_
              simp only [Act.put, List.getElem_toArray, List.getElem_cons_succ, List.getElem_cons_zero, List.setIfInBounds_toArray, List.set_cons_zero, List.set_cons_succ]
              refine hK _ _ ?_
              clear hK K
              try simp only [Act.put, List.getElem_toArray, List.getElem_cons_succ, List.getElem_cons_zero, List.setIfInBounds_toArray, List.set_cons_zero, List.set_cons_succ]
              refine wpAny_ready (rs := [11]) (by kernel_rfl) (by simp) ?_
              refine AllReady.cons (o := _) rfl (fun K hK => ?_) AllReady.nil
              go_simp
              refine (CS.out _).mono ?_
              rintro e w9 ⟨rfl, hb9⟩
              have A9 := HN.out.1.drew.below hb9
              have TH : Hid (w9.there S 0 vs.size) := A9.there 0 _ (by rw [HV.out.2.1]; have h7 : u.list.length = 8 := rfl; simp [stCells]; omega)
              have A10 : ArrIs (w9.setCells S 0 vs.toList) S 79 (stCells (blockW u K0 rb2) rb2 64 t' true) := by rw [HV.out.1]; exact st_setSum A9 _
              have c10 := st_at A10 HN.out.2.1 0 _ rfl
              have f10 := A10.free 72
              have HO : Hid (OpenSt ((w9.setCells S 0 vs.toList).setCell ⟨S, 72, none⟩ (.int .i64 0)) S (p ++ (q ++ r.take k).map UInt8.toNat) t') := HN.out.2.2.2.2 _ (st_setFill A10 HN.out.2.1 0)
              have hgr : w8.grownBy ((w9.setCells S 0 vs.toList).setCell ⟨S, 72, none⟩ (.int .i64 0)) (some S) := grown_tr (grown_cells S _ 0 _ (grown_of_below (kp_call (Below.refl _ _).drew hb9) (Nat.le_refl _) _)) (grown_one _ _ _ _)
              have HQ : Hid ((r.drop k).length = m - k ∧ (q ++ r.take k) ++ r.drop k = bs ∧ OpenSt ((w9.setCells S 0 vs.toList).setCell ⟨S, 72, none⟩ (.int .i64 0)) S (p ++ (q ++ r.take k).map UInt8.toNat) t' ∧ Src ((w9.setCells S 0 vs.toList).setCell ⟨S, 72, none⟩ (.int .i64 0)) S SA (r.drop k) ∧ w.grownBy ((w9.setCells S 0 vs.toList).setCell ⟨S, 72, none⟩ (.int .i64 0)) (some S) ∧ ArrIs ((w9.setCells S 0 vs.toList).setCell ⟨S, 72, none⟩ (.int .i64 0)) G 81 (K0.map v32)) :=
                ⟨HM.out.1, HM.out.2.1, HO.out, HM.out.2.2.1.kept hgr, grown_tr HM.out.2.2.2.1 hgr, (ArrIs.farCells (by omega) _ _ _ (HM.out.2.2.2.2.drew.below hb9)).far (by omega)⟩
              clear hgr A9 A10 hb9 HO
              obtain ⟨wx, hwx⟩ : ∃ wx, w9.setCells S 0 vs.toList = wx := ⟨_, rfl⟩
              rw [hwx] at c10 f10 HQ
              have HX := Lib.hid hwx
              clear hwx
              go_wp2_with fail
              try refine hK _ _ ?_
              try clear hK K
              try simp only [Act.put, List.getElem_toArray, List.getElem_cons_succ, List.getElem_cons_zero, List.setIfInBounds_toArray, List.set_cons_zero, List.set_cons_succ]
              refine wpAny_take (i := 12) (oi := _) (v := ?_) rfl (by kernel_rfl) (by kernel_rfl) (by kernel_rfl) (fun _ _ _ h => h) (Or.inl ⟨by rfl, ?_⟩) ?_
              rotate_left
              · (intro w; go_simp; (try with_reducible rfl))
              simp only [Act.put, List.getElem_toArray, List.getElem_cons_succ, List.getElem_cons_zero, List.setIfInBounds_toArray, List.set_cons_zero, List.set_cons_succ]
              refine wpAny_take (i := 13) (oi := _) (v := ?_) rfl (by kernel_rfl) (by kernel_rfl) (by kernel_rfl) (fun _ _ _ h => h) (Or.inl ⟨by rfl, ?_⟩) ?_
              rotate_left
              · (intro w; go_simp; (try with_reducible rfl))
              simp only [Act.put, List.getElem_toArray, List.getElem_cons_succ, List.getElem_cons_zero, List.setIfInBounds_toArray, List.set_cons_zero, List.set_cons_succ]
              refine wpAny_ready (rs := [14]) (by kernel_rfl) (by simp) ?_
              refine AllReady.cons (o := _) rfl (fun K hK => ?_) AllReady.nil
              refine step_store_mid rfl 75 _ _ rfl S 0 vs rfl rfl TH.out (by rw [HV.out.2.1]; exact size_words) HV.out.2.2 ?_
              simp only [Act.put, List.getElem_toArray, List.getElem_cons_succ, List.getElem_cons_zero, List.setIfInBounds_toArray, List.set_cons_zero, List.set_cons_succ]
              refine hK _ _ ?_
              clear hK K
              rw [HX.out]
              try simp only [Act.put, List.getElem_toArray, List.getElem_cons_succ, List.getElem_cons_zero, List.setIfInBounds_toArray, List.set_cons_zero, List.set_cons_succ]
              refine wpAny_take (i := 15) (oi := _) (v := ?_) rfl (by kernel_rfl) (by kernel_rfl) (by kernel_rfl) (fun _ _ _ h => h) (Or.inl ⟨by rfl, ?_⟩) ?_
              rotate_left
              · (intro w; go_simp; (try with_reducible rfl))
              simp only [Act.put, List.getElem_toArray, List.getElem_cons_succ, List.getElem_cons_zero, List.setIfInBounds_toArray, List.set_cons_zero, List.set_cons_succ]
              refine wpAny_take (i := 16) (oi := _) (v := ?_) rfl (by kernel_rfl) (by kernel_rfl) (by kernel_rfl) (fun _ _ _ h => h) (Or.inl ⟨by rfl, ?_⟩) ?_
              rotate_left
              · (intro w; go_simp; (try with_reducible rfl))
              simp only [Act.put, List.getElem_toArray, List.getElem_cons_succ, List.getElem_cons_zero, List.setIfInBounds_toArray, List.set_cons_zero, List.set_cons_succ]
              refine wpAny_ready (rs := [17]) (by kernel_rfl) (by simp) ?_
              refine AllReady.cons (o := _) rfl (fun K hK => ?_) AllReady.nil
              go_simp
              refine hK _ _ ?_
              clear hK K
              refine wpAny_done (by kernel_rfl) ?_ _
              go_wp2
              go_roundw
              case rel => exact ⟨q ++ r.take k, r.drop k, SA, m - k, c' - k, rfl, by omega, by omega, by omega, HQ.out⟩
              case measure => simp only [slLen]; omega
            refine AllReady.cons (o := _) rfl (fun K hK => ?_) ?_
            · refine step_load_mid rfl 77 _ rfl S 8 rfl rs _ RG.out.2.1 Tryz.underlying77 rfl RG.out.2.2.2.1 ?_
              simp only [Act.put, List.getElem_toArray, List.getElem_cons_succ, List.getElem_cons_zero, List.setIfInBounds_toArray, List.set_cons_zero, List.set_cons_succ]
              refine hK _ _ ?_
              clear hK K
              try simp only [Act.put, List.getElem_toArray, List.getElem_cons_succ, List.getElem_cons_zero, List.setIfInBounds_toArray, List.set_cons_zero, List.set_cons_succ]
              refine wpAny_ready (rs := [5, 10]) (by kernel_rfl) (by simp) ?_
              refine AllReady.cons (o := _) rfl (fun K hK => ?_) ?_
              · refine step_load_mid rfl 75 _ rfl S 0 rfl us _ RG.out.1 Tryz.underlying75 rfl RG.out.2.2.2.2.2 ?_
                simp only [Act.put, List.getElem_toArray, List.getElem_cons_succ, List.getElem_cons_zero, List.setIfInBounds_toArray, List.set_cons_zero, List.set_cons_succ]
                refine hK _ _ ?_
                clear hK K
                try simp only [Act.put, List.getElem_toArray, List.getElem_cons_succ, List.getElem_cons_zero, List.setIfInBounds_toArray, List.set_cons_zero, List.set_cons_succ]
                refine wpAny_ready (rs := [10]) (by kernel_rfl) (by simp) ?_
                refine AllReady.cons (o := _) rfl (fun K hK => ?_) AllReady.nil
                refine step_load_mid rfl 81 _ rfl G 0 rfl k2 _ RG.out.2.2.1 Tryz.underlying81 rfl RG.out.2.2.2.2.1 ?_
                simp only [Act.put, List.getElem_toArray, List.getElem_cons_succ, List.getElem_cons_zero, List.setIfInBounds_toArray, List.set_cons_zero, List.set_cons_succ]
                refine hK _ _ ?_
                clear hK K
                try simp only [Act.put, List.getElem_toArray, List.getElem_cons_succ, List.getElem_cons_zero, List.setIfInBounds_toArray, List.set_cons_zero, List.set_cons_succ]
                refine wpAny_ready (rs := [11]) (by kernel_rfl) (by simp) ?_
                refine AllReady.cons (o := _) rfl (fun K hK => ?_) AllReady.nil
                go_simp
                refine (CS.out _).mono ?_
                rintro e w9 ⟨rfl, hb9⟩
                have A9 := HN.out.1.drew.below hb9
                have TH : Hid (w9.there S 0 vs.size) := A9.there 0 _ (by rw [HV.out.2.1]; have h7 : u.list.length = 8 := rfl; simp [stCells]; omega)
                have A10 : ArrIs (w9.setCells S 0 vs.toList) S 79 (stCells (blockW u K0 rb2) rb2 64 t' true) := by rw [HV.out.1]; exact st_setSum A9 _
                have c10 := st_at A10 HN.out.2.1 0 _ rfl
                have f10 := A10.free 72
                have HO : Hid (OpenSt ((w9.setCells S 0 vs.toList).setCell ⟨S, 72, none⟩ (.int .i64 0)) S (p ++ (q ++ r.take k).map UInt8.toNat) t') := HN.out.2.2.2.2 _ (st_setFill A10 HN.out.2.1 0)
                have hgr : w8.grownBy ((w9.setCells S 0 vs.toList).setCell ⟨S, 72, none⟩ (.int .i64 0)) (some S) := grown_tr (grown_cells S _ 0 _ (grown_of_below (kp_call (Below.refl _ _).drew hb9) (Nat.le_refl _) _)) (grown_one _ _ _ _)
                have HQ : Hid ((r.drop k).length = m - k ∧ (q ++ r.take k) ++ r.drop k = bs ∧ OpenSt ((w9.setCells S 0 vs.toList).setCell ⟨S, 72, none⟩ (.int .i64 0)) S (p ++ (q ++ r.take k).map UInt8.toNat) t' ∧ Src ((w9.setCells S 0 vs.toList).setCell ⟨S, 72, none⟩ (.int .i64 0)) S SA (r.drop k) ∧ w.grownBy ((w9.setCells S 0 vs.toList).setCell ⟨S, 72, none⟩ (.int .i64 0)) (some S) ∧ ArrIs ((w9.setCells S 0 vs.toList).setCell ⟨S, 72, none⟩ (.int .i64 0)) G 81 (K0.map v32)) :=
                  ⟨HM.out.1, HM.out.2.1, HO.out, HM.out.2.2.1.kept hgr, grown_tr HM.out.2.2.2.1 hgr, (ArrIs.farCells (by omega) _ _ _ (HM.out.2.2.2.2.drew.below hb9)).far (by omega)⟩
                clear hgr A9 A10 hb9 HO
                obtain ⟨wx, hwx⟩ : ∃ wx, w9.setCells S 0 vs.toList = wx := ⟨_, rfl⟩
                rw [hwx] at c10 f10 HQ
                have HX := Lib.hid hwx
                clear hwx
                go_wp2_with fail
                try refine hK _ _ ?_
                try clear hK K
                try simp only [Act.put, List.getElem_toArray, List.getElem_cons_succ, List.getElem_cons_zero, List.setIfInBounds_toArray, List.set_cons_zero, List.set_cons_succ]
                refine wpAny_take (i := 12) (oi := _) (v := ?_) rfl (by kernel_rfl) (by kernel_rfl) (by kernel_rfl) (fun _ _ _ h => h) (Or.inl ⟨by rfl, ?_⟩) ?_
                rotate_left
                · (intro w; go_simp; (try with_reducible rfl))
                simp only [Act.put, List.getElem_toArray, List.getElem_cons_succ, List.getElem_cons_zero, List.setIfInBounds_toArray, List.set_cons_zero, List.set_cons_succ]
                refine wpAny_take (i := 13) (oi := _) (v := ?_) rfl (by kernel_rfl) (by kernel_rfl) (by kernel_rfl) (fun _ _ _ h => h) (Or.inl ⟨by rfl, ?_⟩) ?_
                rotate_left
                · (intro w; go_simp; (try with_reducible rfl))
                simp only [Act.put, List.getElem_toArray, List.getElem_cons_succ, List.getElem_cons_zero, List.setIfInBounds_toArray, List.set_cons_zero, List.set_cons_succ]
                refine wpAny_ready (rs := [14]) (by kernel_rfl) (by simp) ?_
                refine AllReady.cons (o := _) rfl (fun K hK => ?_) AllReady.nil
                refine step_store_mid rfl 75 _ _ rfl S 0 vs rfl rfl TH.out (by rw [HV.out.2.1]; exact size_words) HV.out.2.2 ?_
                simp only [Act.put, List.getElem_toArray, List.getElem_cons_succ, List.getElem_cons_zero, List.setIfInBounds_toArray, List.set_cons_zero, List.set_cons_succ]
                refine hK _ _ ?_
                clear hK K
                rw [HX.out]
                try simp only [Act.put, List.getElem_toArray, List.getElem_cons_succ, List.getElem_cons_zero, List.setIfInBounds_toArray, List.set_cons_zero, List.set_cons_succ]
                refine wpAny_take (i := 15) (oi := _) (v := ?_) rfl (by kernel_rfl) (by kernel_rfl) (by kernel_rfl) (fun _ _ _ h => h) (Or.inl ⟨by rfl, ?_⟩) ?_
                rotate_left
                · (intro w; go_simp; (try with_reducible rfl))
                simp only [Act.put, List.getElem_toArray, List.getElem_cons_succ, List.getElem_cons_zero, List.setIfInBounds_toArray, List.set_cons_zero, List.set_cons_succ]
                refine wpAny_take (i := 16) (oi := _) (v := ?_) rfl (by kernel_rfl) (by kernel_rfl) (by kernel_rfl) (fun _ _ _ h => h) (Or.inl ⟨by rfl, ?_⟩) ?_
                rotate_left
                · (intro w; go_simp; (try with_reducible rfl))
                simp only [Act.put, List.getElem_toArray, List.getElem_cons_succ, List.getElem_cons_zero, List.setIfInBounds_toArray, List.set_cons_zero, List.set_cons_succ]
                refine wpAny_ready (rs := [17]) (by kernel_rfl) (by simp) ?_
                refine AllReady.cons (o := _) rfl (fun K hK => ?_) AllReady.nil
                go_simp
                refine hK _ _ ?_
                clear hK K
                refine wpAny_done (by kernel_rfl) ?_ _
                go_wp2
                go_roundw
                case rel => exact ⟨q ++ r.take k, r.drop k, SA, m - k, c' - k, rfl, by omega, by omega, by omega, HQ.out⟩
                case measure => simp only [slLen]; omega
              refine AllReady.cons (o := _) rfl (fun K hK => ?_) AllReady.nil
              refine step_load_mid rfl 81 _ rfl G 0 rfl k2 _ RG.out.2.2.1 Tryz.underlying81 rfl RG.out.2.2.2.2.1 ?_
              simp only [Act.put, List.getElem_toArray, List.getElem_cons_succ, List.getElem_cons_zero, List.setIfInBounds_toArray, List.set_cons_zero, List.set_cons_succ]
              refine hK _ _ ?_
              clear hK K
              try simp only [Act.put, List.getElem_toArray, List.getElem_cons_succ, List.getElem_cons_zero, List.setIfInBounds_toArray, List.set_cons_zero, List.set_cons_succ]
              refine wpAny_ready (rs := [5]) (by kernel_rfl) (by simp) ?_
              refine AllReady.cons (o := _) rfl (fun K hK => ?_) AllReady.nil
              refine step_load_mid rfl 75 _ rfl S 0 rfl us _ RG.out.1 Tryz.underlying75 rfl RG.out.2.2.2.2.2 ?_
              simp only [Act.put, List.getElem_toArray, List.getElem_cons_succ, List.getElem_cons_zero, List.setIfInBounds_toArray, List.set_cons_zero, List.set_cons_succ]
              refine hK _ _ ?_
              clear hK K
              try simp only [Act.put, List.getElem_toArray, List.getElem_cons_succ, List.getElem_cons_zero, List.setIfInBounds_toArray, List.set_cons_zero, List.set_cons_succ]
              refine wpAny_ready (rs := [11]) (by kernel_rfl) (by simp) ?_
              refine AllReady.cons (o := _) rfl (fun K hK => ?_) AllReady.nil
              go_simp
              refine (CS.out _).mono ?_
              rintro e w9 ⟨rfl, hb9⟩
              have A9 := HN.out.1.drew.below hb9
              have TH : Hid (w9.there S 0 vs.size) := A9.there 0 _ (by rw [HV.out.2.1]; have h7 : u.list.length = 8 := rfl; simp [stCells]; omega)
              have A10 : ArrIs (w9.setCells S 0 vs.toList) S 79 (stCells (blockW u K0 rb2) rb2 64 t' true) := by rw [HV.out.1]; exact st_setSum A9 _
              have c10 := st_at A10 HN.out.2.1 0 _ rfl
              have f10 := A10.free 72
              have HO : Hid (OpenSt ((w9.setCells S 0 vs.toList).setCell ⟨S, 72, none⟩ (.int .i64 0)) S (p ++ (q ++ r.take k).map UInt8.toNat) t') := HN.out.2.2.2.2 _ (st_setFill A10 HN.out.2.1 0)
              have hgr : w8.grownBy ((w9.setCells S 0 vs.toList).setCell ⟨S, 72, none⟩ (.int .i64 0)) (some S) := grown_tr (grown_cells S _ 0 _ (grown_of_below (kp_call (Below.refl _ _).drew hb9) (Nat.le_refl _) _)) (grown_one _ _ _ _)
              have HQ : Hid ((r.drop k).length = m - k ∧ (q ++ r.take k) ++ r.drop k = bs ∧ OpenSt ((w9.setCells S 0 vs.toList).setCell ⟨S, 72, none⟩ (.int .i64 0)) S (p ++ (q ++ r.take k).map UInt8.toNat) t' ∧ Src ((w9.setCells S 0 vs.toList).setCell ⟨S, 72, none⟩ (.int .i64 0)) S SA (r.drop k) ∧ w.grownBy ((w9.setCells S 0 vs.toList).setCell ⟨S, 72, none⟩ (.int .i64 0)) (some S) ∧ ArrIs ((w9.setCells S 0 vs.toList).setCell ⟨S, 72, none⟩ (.int .i64 0)) G 81 (K0.map v32)) :=
                ⟨HM.out.1, HM.out.2.1, HO.out, HM.out.2.2.1.kept hgr, grown_tr HM.out.2.2.2.1 hgr, (ArrIs.farCells (by omega) _ _ _ (HM.out.2.2.2.2.drew.below hb9)).far (by omega)⟩
              clear hgr A9 A10 hb9 HO
              obtain ⟨wx, hwx⟩ : ∃ wx, w9.setCells S 0 vs.toList = wx := ⟨_, rfl⟩
              rw [hwx] at c10 f10 HQ
              have HX := Lib.hid hwx
              clear hwx
              go_wp2_with fail
              try refine hK _ _ ?_
              try clear hK K
              try simp only [Act.put, List.getElem_toArray, List.getElem_cons_succ, List.getElem_cons_zero, List.setIfInBounds_toArray, List.set_cons_zero, List.set_cons_succ]
              refine wpAny_take (i := 12) (oi := _) (v := ?_) rfl (by kernel_rfl) (by kernel_rfl) (by kernel_rfl) (fun _ _ _ h => h) (Or.inl ⟨by rfl, ?_⟩) ?_
              rotate_left
              · (intro w; go_simp; (try with_reducible rfl))
              simp only [Act.put, List.getElem_toArray, List.getElem_cons_succ, List.getElem_cons_zero, List.setIfInBounds_toArray, List.set_cons_zero, List.set_cons_succ]
              refine wpAny_take (i := 13) (oi := _) (v := ?_) rfl (by kernel_rfl) (by kernel_rfl) (by kernel_rfl) (fun _ _ _ h => h) (Or.inl ⟨by rfl, ?_⟩) ?_
              rotate_left
              · (intro w; go_simp; (try with_reducible rfl))
              simp only [Act.put, List.getElem_toArray, List.getElem_cons_succ, List.getElem_cons_zero, List.setIfInBounds_toArray, List.set_cons_zero, List.set_cons_succ]
              refine wpAny_ready (rs := [14]) (by kernel_rfl) (by simp) ?_
              refine AllReady.cons (o := _) rfl (fun K hK => ?_) AllReady.nil
              refine step_store_mid rfl 75 _ _ rfl S 0 vs rfl rfl TH.out (by rw [HV.out.2.1]; exact size_words) HV.out.2.2 ?_
              simp only [Act.put, List.getElem_toArray, List.getElem_cons_succ, List.getElem_cons_zero, List.setIfInBounds_toArray, List.set_cons_zero, List.set_cons_succ]
              refine hK _ _ ?_
              clear hK K
              rw [HX.out]
              try simp only [Act.put, List.getElem_toArray, List.getElem_cons_succ, List.getElem_cons_zero, List.setIfInBounds_toArray, List.set_cons_zero, List.set_cons_succ]
              refine wpAny_take (i := 15) (oi := _) (v := ?_) rfl (by kernel_rfl) (by kernel_rfl) (by kernel_rfl) (fun _ _ _ h => h) (Or.inl ⟨by rfl, ?_⟩) ?_
              rotate_left
              · (intro w; go_simp; (try with_reducible rfl))
              simp only [Act.put, List.getElem_toArray, List.getElem_cons_succ, List.getElem_cons_zero, List.setIfInBounds_toArray, List.set_cons_zero, List.set_cons_succ]
              refine wpAny_take (i := 16) (oi := _) (v := ?_) rfl (by kernel_rfl) (by kernel_rfl) (by kernel_rfl) (fun _ _ _ h => h) (Or.inl ⟨by rfl, ?_⟩) ?_
              rotate_left
              · (intro w; go_simp; (try with_reducible rfl))
              simp only [Act.put, List.getElem_toArray, List.getElem_cons_succ, List.getElem_cons_zero, List.setIfInBounds_toArray, List.set_cons_zero, List.set_cons_succ]
              refine wpAny_ready (rs := [17]) (by kernel_rfl) (by simp) ?_
              refine AllReady.cons (o := _) rfl (fun K hK => ?_) AllReady.nil
              go_simp
              refine hK _ _ ?_
              clear hK K
              refine wpAny_done (by kernel_rfl) ?_ _
              go_wp2
              go_roundw
              case rel => exact ⟨q ++ r.take k, r.drop k, SA, m - k, c' - k, rfl, by omega, by omega, by omega, HQ.out⟩
              case measure => simp only [slLen]; omega
            refine AllReady.cons (o := _) rfl (fun K hK => ?_) AllReady.nil
            refine step_load_mid rfl 81 _ rfl G 0 rfl k2 _ RG.out.2.2.1 Tryz.underlying81 rfl RG.out.2.2.2.2.1 ?_
            simp only [Act.put, List.getElem_toArray, List.getElem_cons_succ, List.getElem_cons_zero, List.setIfInBounds_toArray, List.set_cons_zero, List.set_cons_succ]
            refine hK _ _ ?_
            clear hK K
            try simp only [Act.put, List.getElem_toArray, List.getElem_cons_succ, List.getElem_cons_zero, List.setIfInBounds_toArray, List.set_cons_zero, List.set_cons_succ]
            refine wpAny_ready (rs := [5, 9]) (by kernel_rfl) (by simp) ?_
            refine AllReady.cons (o := _) rfl (fun K hK => ?_) ?_
            · refine step_load_mid rfl 75 _ rfl S 0 rfl us _ RG.out.1 Tryz.underlying75 rfl RG.out.2.2.2.2.2 ?_
              simp only [Act.put, List.getElem_toArray, List.getElem_cons_succ, List.getElem_cons_zero, List.setIfInBounds_toArray, List.set_cons_zero, List.set_cons_succ]
              refine hK _ _ ?_
              clear hK K
              try simp only [Act.put, List.getElem_toArray, List.getElem_cons_succ, List.getElem_cons_zero, List.setIfInBounds_toArray, List.set_cons_zero, List.set_cons_succ]
              refine wpAny_ready (rs := [9]) (by kernel_rfl) (by simp) ?_
              refine AllReady.cons (o := _) rfl (fun K hK => ?_) AllReady.nil
              refine step_load_mid rfl 77 _ rfl S 8 rfl rs _ RG.out.2.1 Tryz.underlying77 rfl RG.out.2.2.2.1 ?_
              simp only [Act.put, List.getElem_toArray, List.getElem_cons_succ, List.getElem_cons_zero, List.setIfInBounds_toArray, List.set_cons_zero, List.set_cons_succ]
              refine hK _ _ ?_
              clear hK K
              try simp only [Act.put, List.getElem_toArray, List.getElem_cons_succ, List.getElem_cons_zero, List.setIfInBounds_toArray, List.set_cons_zero, List.set_cons_succ]
              refine wpAny_ready (rs := [11]) (by kernel_rfl) (by simp) ?_
              refine AllReady.cons (o := _) rfl (fun K hK => ?_) AllReady.nil
              go_simp
              refine (CS.out _).mono ?_
              rintro e w9 ⟨rfl, hb9⟩
              have A9 := HN.out.1.drew.below hb9
              have TH : Hid (w9.there S 0 vs.size) := A9.there 0 _ (by rw [HV.out.2.1]; have h7 : u.list.length = 8 := rfl; simp [stCells]; omega)
              have A10 : ArrIs (w9.setCells S 0 vs.toList) S 79 (stCells (blockW u K0 rb2) rb2 64 t' true) := by rw [HV.out.1]; exact st_setSum A9 _
              have c10 := st_at A10 HN.out.2.1 0 _ rfl
              have f10 := A10.free 72
              have HO : Hid (OpenSt ((w9.setCells S 0 vs.toList).setCell ⟨S, 72, none⟩ (.int .i64 0)) S (p ++ (q ++ r.take k).map UInt8.toNat) t') := HN.out.2.2.2.2 _ (st_setFill A10 HN.out.2.1 0)
              have hgr : w8.grownBy ((w9.setCells S 0 vs.toList).setCell ⟨S, 72, none⟩ (.int .i64 0)) (some S) := grown_tr (grown_cells S _ 0 _ (grown_of_below (kp_call (Below.refl _ _).drew hb9) (Nat.le_refl _) _)) (grown_one _ _ _ _)
              have HQ : Hid ((r.drop k).length = m - k ∧ (q ++ r.take k) ++ r.drop k = bs ∧ OpenSt ((w9.setCells S 0 vs.toList).setCell ⟨S, 72, none⟩ (.int .i64 0)) S (p ++ (q ++ r.take k).map UInt8.toNat) t' ∧ Src ((w9.setCells S 0 vs.toList).setCell ⟨S, 72, none⟩ (.int .i64 0)) S SA (r.drop k) ∧ w.grownBy ((w9.setCells S 0 vs.toList).setCell ⟨S, 72, none⟩ (.int .i64 0)) (some S) ∧ ArrIs ((w9.setCells S 0 vs.toList).setCell ⟨S, 72, none⟩ (.int .i64 0)) G 81 (K0.map v32)) :=
                ⟨HM.out.1, HM.out.2.1, HO.out, HM.out.2.2.1.kept hgr, grown_tr HM.out.2.2.2.1 hgr, (ArrIs.farCells (by omega) _ _ _ (HM.out.2.2.2.2.drew.below hb9)).far (by omega)⟩
              clear hgr A9 A10 hb9 HO
              obtain ⟨wx, hwx⟩ : ∃ wx, w9.setCells S 0 vs.toList = wx := ⟨_, rfl⟩
              rw [hwx] at c10 f10 HQ
              have HX := Lib.hid hwx
              clear hwx
              go_wp2_with fail
              try refine hK _ _ ?_
              try clear hK K
              try simp only [Act.put, List.getElem_toArray, List.getElem_cons_succ, List.getElem_cons_zero, List.setIfInBounds_toArray, List.set_cons_zero, List.set_cons_succ]
              refine wpAny_take (i := 12) (oi := _) (v := ?_) rfl (by kernel_rfl) (by kernel_rfl) (by kernel_rfl) (fun _ _ _ h => h) (Or.inl ⟨by rfl, ?_⟩) ?_
              rotate_left
              · (intro w; go_simp; (try with_reducible rfl))
              simp only [Act.put, List.getElem_toArray, List.getElem_cons_succ, List.getElem_cons_zero, List.setIfInBounds_toArray, List.set_cons_zero, List.set_cons_succ]
              refine wpAny_take (i := 13) (oi := _) (v := ?_) rfl (by kernel_rfl) (by kernel_rfl) (by kernel_rfl) (fun _ _ _ h => h) (Or.inl ⟨by rfl, ?_⟩) ?_
              rotate_left
              · (intro w; go_simp; (try with_reducible rfl))
              simp only [Act.put, List.getElem_toArray, List.getElem_cons_succ, List.getElem_cons_zero, List.setIfInBounds_toArray, List.set_cons_zero, List.set_cons_succ]
              refine wpAny_ready (rs := [14]) (by kernel_rfl) (by simp) ?_
              refine AllReady.cons (o := _) rfl (fun K hK => ?_) AllReady.nil
              refine step_store_mid rfl 75 _ _ rfl S 0 vs rfl rfl TH.out (by rw [HV.out.2.1]; exact size_words) HV.out.2.2 ?_
              simp only [Act.put, List.getElem_toArray, List.getElem_cons_succ, List.getElem_cons_zero, List.setIfInBounds_toArray, List.set_cons_zero, List.set_cons_succ]
              refine hK _ _ ?_
              clear hK K
              rw [HX.out]
              try simp only [Act.put, List.getElem_toArray, List.getElem_cons_succ, List.getElem_cons_zero, List.setIfInBounds_toArray, List.set_cons_zero, List.set_cons_succ]
              refine wpAny_take (i := 15) (oi := _) (v := ?_) rfl (by kernel_rfl) (by kernel_rfl) (by kernel_rfl) (fun _ _ _ h => h) (Or.inl ⟨by rfl, ?_⟩) ?_
              rotate_left
              · (intro w; go_simp; (try with_reducible rfl))
              simp only [Act.put, List.getElem_toArray, List.getElem_cons_succ, List.getElem_cons_zero, List.setIfInBounds_toArray, List.set_cons_zero, List.set_cons_succ]
              refine wpAny_take (i := 16) (oi := _) (v := ?_) rfl (by kernel_rfl) (by kernel_rfl) (by kernel_rfl) (fun _ _ _ h => h) (Or.inl ⟨by rfl, ?_⟩) ?_
              rotate_left
              · (intro w; go_simp; (try with_reducible rfl))
              simp only [Act.put, List.getElem_toArray, List.getElem_cons_succ, List.getElem_cons_zero, List.setIfInBounds_toArray, List.set_cons_zero, List.set_cons_succ]
              refine wpAny_ready (rs := [17]) (by kernel_rfl) (by simp) ?_
              refine AllReady.cons (o := _) rfl (fun K hK => ?_) AllReady.nil
              go_simp
              refine hK _ _ ?_
              clear hK K
              refine wpAny_done (by kernel_rfl) ?_ _
              go_wp2
              go_roundw
              case rel => exact ⟨q ++ r.take k, r.drop k, SA, m - k, c' - k, rfl, by omega, by omega, by omega, HQ.out⟩
              case measure => simp only [slLen]; omega
            refine AllReady.cons (o := _) rfl (fun K hK => ?_) AllReady.nil
            refine step_load_mid rfl 77 _ rfl S 8 rfl rs _ RG.out.2.1 Tryz.underlying77 rfl RG.out.2.2.2.1 ?_
            simp only [Act.put, List.getElem_toArray, List.getElem_cons_succ, List.getElem_cons_zero, List.setIfInBounds_toArray, List.set_cons_zero, List.set_cons_succ]
            refine hK _ _ ?_
            clear hK K
            try simp only [Act.put, List.getElem_toArray, List.getElem_cons_succ, List.getElem_cons_zero, List.setIfInBounds_toArray, List.set_cons_zero, List.set_cons_succ]
            refine wpAny_ready (rs := [5]) (by kernel_rfl) (by simp) ?_
            refine AllReady.cons (o := _) rfl (fun K hK => ?_) AllReady.nil
            refine step_load_mid rfl 75 _ rfl S 0 rfl us _ RG.out.1 Tryz.underlying75 rfl RG.out.2.2.2.2.2 ?_
            simp only [Act.put, List.getElem_toArray, List.getElem_cons_succ, List.getElem_cons_zero, List.setIfInBounds_toArray, List.set_cons_zero, List.set_cons_succ]
            refine hK _ _ ?_
            clear hK K
            try simp only [Act.put, List.getElem_toArray, List.getElem_cons_succ, List.getElem_cons_zero, List.setIfInBounds_toArray, List.set_cons_zero, List.set_cons_succ]
            refine wpAny_ready (rs := [11]) (by kernel_rfl) (by simp) ?_
            refine AllReady.cons (o := _) rfl (fun K hK => ?_) AllReady.nil
            go_simp
            refine (CS.out _).mono ?_
            rintro e w9 ⟨rfl, hb9⟩
            have A9 := HN.out.1.drew.below hb9
            have TH : Hid (w9.there S 0 vs.size) := A9.there 0 _ (by rw [HV.out.2.1]; have h7 : u.list.length = 8 := rfl; simp [stCells]; omega)
            have A10 : ArrIs (w9.setCells S 0 vs.toList) S 79 (stCells (blockW u K0 rb2) rb2 64 t' true) := by rw [HV.out.1]; exact st_setSum A9 _
            have c10 := st_at A10 HN.out.2.1 0 _ rfl
            have f10 := A10.free 72
            have HO : Hid (OpenSt ((w9.setCells S 0 vs.toList).setCell ⟨S, 72, none⟩ (.int .i64 0)) S (p ++ (q ++ r.take k).map UInt8.toNat) t') := HN.out.2.2.2.2 _ (st_setFill A10 HN.out.2.1 0)
            have hgr : w8.grownBy ((w9.setCells S 0 vs.toList).setCell ⟨S, 72, none⟩ (.int .i64 0)) (some S) := grown_tr (grown_cells S _ 0 _ (grown_of_below (kp_call (Below.refl _ _).drew hb9) (Nat.le_refl _) _)) (grown_one _ _ _ _)
            have HQ : Hid ((r.drop k).length = m - k ∧ (q ++ r.take k) ++ r.drop k = bs ∧ OpenSt ((w9.setCells S 0 vs.toList).setCell ⟨S, 72, none⟩ (.int .i64 0)) S (p ++ (q ++ r.take k).map UInt8.toNat) t' ∧ Src ((w9.setCells S 0 vs.toList).setCell ⟨S, 72, none⟩ (.int .i64 0)) S SA (r.drop k) ∧ w.grownBy ((w9.setCells S 0 vs.toList).setCell ⟨S, 72, none⟩ (.int .i64 0)) (some S) ∧ ArrIs ((w9.setCells S 0 vs.toList).setCell ⟨S, 72, none⟩ (.int .i64 0)) G 81 (K0.map v32)) :=
              ⟨HM.out.1, HM.out.2.1, HO.out, HM.out.2.2.1.kept hgr, grown_tr HM.out.2.2.2.1 hgr, (ArrIs.farCells (by omega) _ _ _ (HM.out.2.2.2.2.drew.below hb9)).far (by omega)⟩
            clear hgr A9 A10 hb9 HO
            obtain ⟨wx, hwx⟩ : ∃ wx, w9.setCells S 0 vs.toList = wx := ⟨_, rfl⟩
            rw [hwx] at c10 f10 HQ
            have HX := Lib.hid hwx
            clear hwx
            go_wp2_with fail
            try refine hK _ _ ?_
            try clear hK K
            try simp only [Act.put, List.getElem_toArray, List.getElem_cons_succ, List.getElem_cons_zero, List.setIfInBounds_toArray, List.set_cons_zero, List.set_cons_succ]
            refine wpAny_take (i := 12) (oi := _) (v := ?_) rfl (by kernel_rfl) (by kernel_rfl) (by kernel_rfl) (fun _ _ _ h => h) (Or.inl ⟨by rfl, ?_⟩) ?_
            rotate_left
            · (intro w; go_simp; (try with_reducible rfl))
            simp only [Act.put, List.getElem_toArray, List.getElem_cons_succ, List.getElem_cons_zero, List.setIfInBounds_toArray, List.set_cons_zero, List.set_cons_succ]
            refine wpAny_take (i := 13) (oi := _) (v := ?_) rfl (by kernel_rfl) (by kernel_rfl) (by kernel_rfl) (fun _ _ _ h => h) (Or.inl ⟨by rfl, ?_⟩) ?_
            rotate_left
            · (intro w; go_simp; (try with_reducible rfl))
            simp only [Act.put, List.getElem_toArray, List.getElem_cons_succ, List.getElem_cons_zero, List.setIfInBounds_toArray, List.set_cons_zero, List.set_cons_succ]
            refine wpAny_ready (rs := [14]) (by kernel_rfl) (by simp) ?_
            refine AllReady.cons (o := _) rfl (fun K hK => ?_) AllReady.nil
            refine step_store_mid rfl 75 _ _ rfl S 0 vs rfl rfl TH.out (by rw [HV.out.2.1]; exact size_words) HV.out.2.2 ?_
            simp only [Act.put, List.getElem_toArray, List.getElem_cons_succ, List.getElem_cons_zero, List.setIfInBounds_toArray, List.set_cons_zero, List.set_cons_succ]
            refine hK _ _ ?_
            clear hK K
            rw [HX.out]
            try simp only [Act.put, List.getElem_toArray, List.getElem_cons_succ, List.getElem_cons_zero, List.setIfInBounds_toArray, List.set_cons_zero, List.set_cons_succ]
            refine wpAny_take (i := 15) (oi := _) (v := ?_) rfl (by kernel_rfl) (by kernel_rfl) (by kernel_rfl) (fun _ _ _ h => h) (Or.inl ⟨by rfl, ?_⟩) ?_
            rotate_left
            · (intro w; go_simp; (try with_reducible rfl))
            simp only [Act.put, List.getElem_toArray, List.getElem_cons_succ, List.getElem_cons_zero, List.setIfInBounds_toArray, List.set_cons_zero, List.set_cons_succ]
            refine wpAny_take (i := 16) (oi := _) (v := ?_) rfl (by kernel_rfl) (by kernel_rfl) (by kernel_rfl) (fun _ _ _ h => h) (Or.inl ⟨by rfl, ?_⟩) ?_
            rotate_left
            · (intro w; go_simp; (try with_reducible rfl))
            simp only [Act.put, List.getElem_toArray, List.getElem_cons_succ, List.getElem_cons_zero, List.setIfInBounds_toArray, List.set_cons_zero, List.set_cons_succ]
            refine wpAny_ready (rs := [17]) (by kernel_rfl) (by simp) ?_
            refine AllReady.cons (o := _) rfl (fun K hK => ?_) AllReady.nil
            go_simp
            refine hK _ _ ?_
            clear hK K
            refine wpAny_done (by kernel_rfl) ?_ _
            go_wp2
            go_roundw
            case rel => exact ⟨q ++ r.take k, r.drop k, SA, m - k, c' - k, rfl, by omega, by omega, by omega, HQ.out⟩
            case measure => simp only [slLen]; omega
          · have h6 := open_part (w := wr.drew) (cs := cs) hf hu hA.drew hr hb htk hcb (by omega)
            rw [hcl] at h6
            have HN : Hid ((r.drop k).length = m - k ∧ (q ++ r.take k) ++ r.drop k = bs ∧ OpenSt ((wr.drew.setCells S (8 + f2) (cs.map v8)).setCell ⟨S, 72, none⟩ (.int .i64 ((f2 : Int) + (k : Int)))) S (p ++ (q ++ r.take k).map UInt8.toNat) t' ∧ Src ((wr.drew.setCells S (8 + f2) (cs.map v8)).setCell ⟨S, 72, none⟩ (.int .i64 ((f2 : Int) + (k : Int)))) S SA (r.drop k) ∧ w.grownBy ((wr.drew.setCells S (8 + f2) (cs.map v8)).setCell ⟨S, 72, none⟩ (.int .i64 ((f2 : Int) + (k : Int)))) (some S) ∧ ArrIs ((wr.drew.setCells S (8 + f2) (cs.map v8)).setCell ⟨S, 72, none⟩ (.int .i64 ((f2 : Int) + (k : Int)))) G 81 (K0.map v32)) :=
              ⟨hq3, hq2, by rw [hq1]; exact h6, s7, g7, a7⟩
            obtain ⟨wk, hwk⟩ : ∃ wk, wr.drew.setCells S (8 + f2) (cs.map v8) = wk := ⟨_, rfl⟩
            rw [hwk] at hcp c7 f7 HN
            have t1 : ((f2 : Int) + (k : Int) == 64) = false := by simp; omega
            have c6 := HC6.out
            clear hwk h6 h5 g7 g8 a7 s7 hq1 hq2 hq3 hcl hcb hcs hsrc HL l1 l2 l3 l4 l5 l6 hf hu hA hr hb htk hcell hk hfl HC6
            go_wp2_with fail
            go_region
            all_goals
              go_wp2
              go_roundw
              case rel => exact ⟨q ++ r.take k, r.drop k, SA, m - k, c' - k, rfl, by omega, by omega, by omega, HN.out⟩
              case measure => simp only [slLen]; omega
end Go.Proofs.YtcedojmhgmgcgaaGreatDoor
namespace Go.Proofs.YtcedojmhgmgcgaaGreatDoor
open Go.RowKit Go
set_option linter.unusedVariables false
set_option linter.unusedSimpArgs false
set_option maxRecDepth 100000
theorem all8 (l : List Nat) : (l.map v8).toArray.all (·.oneCell') = true := by
  simp only [List.all_toArray, List.all_map, List.all_eq_true]
  intro x _
  rfl
/-- An array of n bytes of which the first ones are told. -/
def part8 (n : Nat) (l : List Nat) : List Value := l.map v8 ++ List.replicate (n - l.length) (.int .u8 0)
theorem part8_len (n : Nat) (l : List Nat) (h : l.length ≤ n) : (part8 n l).length = n := by unfold part8; simp; omega
theorem part8_next (n : Nat) (l : List Nat) (x : Nat) (h : l.length < n) : part8 n (l ++ [x]) = (part8 n l).set l.length (v8 x) := by
  unfold part8
  rw [List.set_append_right _ _ (by simp), List.length_map, Nat.sub_self]
  obtain ⟨k, hk⟩ : ∃ k, n - l.length = k + 1 := ⟨n - l.length - 1, by omega⟩
  rw [hk, List.length_append, show n - (l.length + [x].length) = k by simp; omega, List.replicate_succ]
  simp
theorem part8_full (n : Nat) (l : List Nat) (h : l.length = n) : part8 n l = l.map v8 := by unfold part8; rw [h]; simp
/-- Byte k of eight words. -/
def digB (u : V8) (k : Nat) : Nat := (u.list.getD (k / 4) 0) / 2 ^ (24 - 8 * (k % 4)) % 256
def dig (u : V8) (n : Nat) : List Nat := (List.range n).map (digB u)
theorem dig_len (u : V8) (n : Nat) : (dig u n).length = n := by unfold dig; simp
theorem dig_next (u : V8) (n : Nat) : dig u (n + 1) = dig u n ++ [digB u n] := by
  unfold dig
  rw [List.range_succ, List.map_append]
  rfl
theorem digB_at (u : V8) (i j x : Nat) (hj : j < 4) (h : u.list[i]? = some x) : digB u (4 * i + j) = x / 2 ^ (24 - 8 * j) % 256 := by
  unfold digB
  rw [show (4 * i + j) / 4 = i by omega, show (4 * i + j) % 4 = j by omega, List.getD_eq_getElem?_getD, h]
  rfl
theorem digB_lt (u : V8) (k : Nat) : digB u k < 256 := Nat.mod_lt _ (by decide)
theorem dig_lt (u : V8) (n : Nat) : ∀ x ∈ dig u n, x < 256 := fun x hx => by
  obtain ⟨k, _, rfl⟩ := List.mem_map.1 hx
  exact digB_lt u k
theorem run_shr24 (x j : Nat) (hj : j < 4) (w : World) : (Op.shift BinOp.shr IntKind.u32 (x : Int) IntKind.i64 (24 - 8 * (j : Int))).run Tryz.prog w = .ok (.int .u32 ((x : Int) / 2 ^ (24 - 8 * j))) w := by
  unfold Op.shift
  rw [if_neg (by omega)]
  have hm : min (24 - 8 * (j : Int)).toNat IntKind.u32.bits = 24 - 8 * j := by
    show min (24 - 8 * (j : Int)).toNat 32 = 24 - 8 * j
    omega
  simp only [hm]
  rw [Int.fdiv_eq_ediv_of_nonneg _ (Int.pow_nonneg (by decide))]
  rfl
theorem dig_num (x j : Nat) : IntKind.u8.wrap ((x : Int) / 2 ^ (24 - 8 * j)) = ((x / 2 ^ (24 - 8 * j) % 256 : Nat) : Int) := by
  rw [IntKind.wrap_u8']
  have hp : (2 : Int) ^ (24 - 8 * j) = ((2 ^ (24 - 8 * j) : Nat) : Int) := by simp
  rw [hp]
  generalize 2 ^ (24 - 8 * j) = P
  omega
/-- A state's block, whole. -/
theorem Holds.row {w : World} {S : Nat} {p : List Nat} {t : Nat} (h : Holds w S p t) : ∃ vs : Array Value, w.heap[S]? = some (.cells vs 79 (0, 0)) ∧ vs.size = 75 ∧ vs.all (·.oneCell') = true ∧ w.cell? ⟨S, 73, none⟩ = some (.int .u64 (t : Int)) ∧ ∀ w' S', w'.heap[S']? = some (.cells vs 79 (0, 0)) → Holds w' S' p t := by
  have one : ∀ (u : V8) (rb : List Nat) (f t : Nat) (b : Bool), (stCells u rb f t b).toArray.all (·.oneCell') = true := fun u rb f t b => by
    simp only [List.all_toArray, stCells, List.all_append, List.all_map, Bool.and_eq_true, List.all_eq_true]
    exact ⟨fun _ _ => rfl, fun _ _ => rfl, fun x hx => by simp only [List.mem_cons, List.not_mem_nil, or_false] at hx; rcases hx with rfl | rfl | rfl <;> rfl⟩
  have len : ∀ (u : V8) (rb : List Nat) (f t : Nat) (b : Bool), rb.length = 64 → (stCells u rb f t b).toArray.size = 75 := fun u rb f t b hr => by
    have h7 : u.list.length = 8 := rfl
    simp [stCells, hr, h7]
  rcases h with ⟨rb, hA, hr, hb, htk⟩ | ⟨rfl, u, rb, hA, hr, hb⟩
  · exact ⟨_, hA, len _ _ _ _ _ hr, one _ _ _ _ _, st_at hA hr 1 _ rfl, fun w' S' h' => Or.inl ⟨rb, h', hr, hb, htk⟩⟩
  · exact ⟨_, hA, len _ _ _ _ _ hr, one _ _ _ _ _, st_at hA hr 1 _ rfl, fun w' S' h' => Or.inr ⟨rfl, u, rb, h', hr, hb⟩⟩
theorem Holds.below {w w' : World} {S : Nat} {p : List Nat} {t : Nat} (h : Holds w S p t) (hb : Below w.heap.size w w') : Holds w' S p t := by
  obtain ⟨vs, h1, _, _, _, h2⟩ := h.row
  exact h2 w' S (has_below h1 hb)
theorem Holds.lt {w : World} {S : Nat} {p : List Nat} {t : Nat} (h : Holds w S p t) : S < w.heap.size := by
  obtain ⟨vs, h1, _⟩ := h.row
  exact block_lt h1
theorem Holds.grown {w w' : World} {S : Nat} {p : List Nat} {t : Nat} (h : Holds w S p t) {row : Option Nat} (hg : w.grownBy w' row) (hne : some S ≠ row) : Holds w' S p t := by
  obtain ⟨vs, h1, _, _, _, h2⟩ := h.row
  exact h2 w' S ((hg.block S (block_lt h1) hne).trans h1)
theorem below_of_grown {v w w' : World} {S : Nat} (h : Below v.heap.size v w) (hg : w.grownBy w' (some S)) (hS : v.heap.size ≤ S) : Below v.heap.size v w' := by
  refine ⟨hg.os.trans h.os, hg.tape.trans h.tape, hg.output.trans h.output, Nat.le_trans h.size hg.size, fun k hk => ?_⟩
  rw [hg.block k (Nat.lt_of_lt_of_le hk h.size) (by intro e; injection e with e; omega)]
  exact h.block k hk
/-- The sum of the bytes p of which there were so many. -/
def sumQ (p : List Nat) (t : Nat) : List Nat := dig (hashN H0v (p ++ padShQ t) ((p ++ padShQ t).length / 64)) 32
theorem sumQ_len (p : List Nat) (t : Nat) : (sumQ p t).length = 32 := dig_len _ _
theorem padB_nat (t : Nat) : (padB t).map UInt8.toNat = padShQ t := by
  have hz : ∀ x ∈ padShQ t, x < 256 := by
    intro x hx
    unfold padShQ at hx
    have hb : ∀ i, be8 t i < 256 := fun i => Nat.mod_lt _ (by decide)
    rcases List.mem_cons.1 hx with rfl | hx
    · decide
    · rcases List.mem_append.1 hx with hx | hx
      · rw [(List.mem_replicate.1 hx).2]; decide
      · simp only [List.mem_cons, List.not_mem_nil, or_false] at hx
        rcases hx with rfl | rfl | rfl | rfl | rfl | rfl | rfl | rfl <;> exact hb _
  rw [padB_eq, List.map_map]
  conv => rhs; rw [← List.map_id (padShQ t)]
  refine List.map_congr_left fun x hx => ?_
  simp only [Function.comp, id]
  rw [UInt8.toNat_ofNat']
  exact Nat.mod_eq_of_lt (hz x hx)
theorem wpList_load_arr {P : Program} {ops : Array Oper} {rest : List Oper} {op : Oper} {a : Act} {w : World} {Q : Exit → Act → World → Prop} (hgd : op.guard = none) (ty : TypeId) (x : Operand) (ho : op.op = .load ty x)
    (b o : Nat) (hx : a.eval x = .pointer (some ⟨b, o, none⟩)) (cs : Array Value) (d : TypeDesc) (hc : w.rangeAt b o cs.toList)
    (hu : P.underlying ty = some d) (hd : d.isRow = true) (hi : (P.info? ty).map (·.size) = some cs.size)
    (h : wpList P ops Q rest (a.put op.dst (.agg cs)) w) : wpList P ops Q (op :: rest) a w :=
  wpList_load_mid hgd ty x ho b o hx cs.toList d hc hu hd (by rw [Array.length_toList]; exact hi) h
theorem rangeAt_alloc {w : World} {b o : Nat} {cs : List Value} (h : w.rangeAt b o cs) (hb : b < w.heap.size) (x : Obj) : (w.alloc x).rangeAt b o cs := fun j v hv => by
  rw [World.cell?_alloc_lt w x ⟨b, o + j, none⟩ hb]
  exact h j v hv
end Go.Proofs.YtcedojmhgmgcgaaGreatDoor
namespace Go.Proofs.YtcedojmhgmgcgaaGreatDoor
open Go.RowKit Go
set_option linter.unusedVariables false
set_option linter.unusedSimpArgs false
set_option maxRecDepth 100000
theorem size_state : (Tryz.prog.info? 79).map (·.size) = some 75 := by kernel_rfl
theorem size_32 : (Tryz.prog.info? 25).map (·.size) = some 32 := by kernel_rfl
theorem zero_state (w : World) : (zeroValue 79).run Tryz.prog w = .ok (.agg zeroState.toArray) w := by kernel_rfl
set_option maxHeartbeats 4000000 in
theorem stsum_any (S : Nat) (p : List Nat) (t : Nat) (w : World) (hH : Holds w S p t) (ht : t < 18446744073709551616) :
    Calls Tryz.prog 19 #[.pointer (some ⟨S, 0, none⟩)] w fun e w' => e = .returned (.agg ((sumQ p t).map v8).toArray) ∧ Below w.heap.size w w' := by
  obtain ⟨vs, hr, hvs, hone, c73, hmk⟩ := hH.row
  obtain ⟨B, hB⟩ : ∃ B, w.heap.size = B := ⟨_, rfl⟩
  have hS : S < B := by rw [← hB]; exact hH.lt
  obtain ⟨u, hu⟩ : ∃ u, hashN H0v (p ++ padShQ t) ((p ++ padShQ t).length / 64) = u := ⟨_, rfl⟩
  have HU := Lib.hid hu
  have HR := Lib.hid (fun o => has_alloc hr o)
  have hif : (Tryz.prog.info? 79).map (·.size) = some vs.size := by rw [hvs]; exact size_state
  have HV := Lib.hid (show _ ∧ _ ∧ _ ∧ _ from ⟨hvs, hone, hif, hmk⟩)
  have HH := Lib.hid hH
  clear hr hvs hone hmk hH hif hu c73
  obtain ⟨zs, hzs⟩ : ∃ zs, zeroState.toArray = zs := ⟨_, rfl⟩
  have hz := zero_state
  rw [hzs] at hz
  have HZ : Hid (zs.size = 75) := by rw [← hzs]; rfl
  clear hzs
  go_enter Tryz.func19, Tryz.ntmps19
  go_upto_region 4 with (first
    | (refine wpList_load_row rfl _ _ rfl S rfl _ vs _ _ (HR.out _) Tryz.underlying79 rfl HV.out.2.2.1 ?_)
    | (refine wpList_store_row rfl _ _ _ rfl (B + 1) vs rfl rfl _ _ (has_new' _ _ _ (by simp [hB])) HV.out.2.2.1 (by rw [HV.out.1, HZ.out]) HV.out.2.1 ?_))
  refine wp_nm fun W2 hW2 => ?_
  have hb2 : Below w.heap.size w W2 := by rw [← hW2]; exact below_setRow (kp_alloc (kp_alloc (Below.refl _ _) _) _) (by omega) _
  have k0 : ArrIs W2 B 25 (part8 32 []) := by
    rw [← hW2]
    unfold ArrIs
    rw [setRow_other _ _ _ _ (by omega)]
    exact has_alloc (has_new' _ _ _ hB.symm) _
  have k1 : Holds W2 (B + 1) p t := by
    refine HV.out.2.2.2 W2 (B + 1) ?_
    rw [← hW2]
    exact setRow_heap _ (B + 1) _ _ _ _ (has_new' _ _ _ (by simp [hB]))
  have hz2 : B + 1 < W2.heap.size := k1.lt
  have c73 := (HH.out.below hb2).row
  obtain ⟨_, _, _, _, c73, _⟩ := c73
  have H2 : Hid (Below w.heap.size w W2 ∧ ArrIs W2 B 25 (part8 32 []) ∧ Holds W2 (B + 1) p t) := ⟨hb2, k0, k1⟩
  have PA := Lib.hid (padding_any t ht W2)
  obtain ⟨n, hn⟩ : ∃ n, zerosQ t + 9 = n := ⟨_, rfl⟩
  have hnl : n ≤ 73 := by rw [← hn]; unfold zerosQ; omega
  obtain ⟨B2, hB2⟩ : ∃ B2, W2.heap.size = B2 := ⟨_, rfl⟩
  rw [hn, hB2] at PA
  have HN := Lib.hid hn
  clear hb2 k0 k1 hW2 HR HV hz hn HZ HH
  go_wp2_with fail
  refine PA.out.mono ?_
  rintro e w3 ⟨rfl, hown, hb3⟩
  obtain ⟨h21, h22, h23⟩ := H2.out
  rw [hB2] at hz2
  have hb3' : Below W2.heap.size W2 w3 := by rw [hB2]; exact hb3
  have hsrc : Src w3 (B + 1) (some ⟨B2, 0, none⟩) (padB t) := Src.of_bs hown.reads (Nat.le_refl _) (fun b off e => by injection e with e; injection e with e1; omega)
  have WA := Lib.hid (write_any (B + 1) (some ⟨B2, 0, none⟩) n n p t (padB t) w3 (h23.below hb3') hsrc hown.len (by omega) (Nat.le_refl _) (by omega) ht)
  rw [padB_nat] at WA
  have H3 : Hid (Below w.heap.size w w3 ∧ ArrIs w3 B 25 (part8 32 [])) := ⟨kp_call h21 hb3', h22.below hb3'⟩
  clear h21 h22 h23 hb3 hb3' hsrc hown PA H2 c73
  go_wp2_with fail
  refine WA.out.mono ?_
  rintro e w4 ⟨rfl, ho4, hg4⟩
  obtain ⟨h31, h32⟩ := H3.out
  obtain ⟨rb, hA, _⟩ := ho4
  rw [HU.out] at hA
  have hbw4 := below_of_grown h31 hg4 (by omega)
  have hk4 : ArrIs w4 B 25 (part8 32 []) := (hg4.block B h32.lt (by intro e; injection e with e; omega)).trans h32
  obtain ⟨us, hus⟩ : ∃ us, (u.list.map v32).toArray = us := ⟨_, rfl⟩
  have hul : us.toList = u.list.map v32 := by rw [← hus]
  have hsz : us.size = 8 := by rw [← hus]; rfl
  have hif : (Tryz.prog.info? 75).map (·.size) = some us.size := by rw [hsz]; exact size_words
  have RG := Lib.hid (fun o => rangeAt_alloc (o := 0) (cs := us.toList) (by rw [hul]; exact st_sum hA) hA.lt o)
  obtain ⟨B4, hB4⟩ : ∃ B4, w4.heap.size = B4 := ⟨_, rfl⟩
  have hBB : B + 1 < B4 := by rw [← hB4]; exact hA.lt
  have H4 : Hid (Below w.heap.size w (w4.alloc (.cells (part8 32 []).toArray 25)) ∧ ArrIs (w4.alloc (.cells (part8 32 []).toArray 25)) B 25 (part8 32 []) ∧ ArrIs (w4.alloc (.cells (part8 32 []).toArray 25)) B4 25 (part8 32 (dig u (4 * 0)))) := ⟨kp_alloc hbw4 _, has_alloc hk4 _, has_new' _ _ _ hB4.symm⟩
  have HUS := Lib.hid (show _ ∧ _ from ⟨hul, hif⟩)
  clear h31 h32 hA hg4 hbw4 hk4 hus hul hsz hif WA H3 HN hnl hz2 hB2
  go_wp2_with (refine wpList_load_arr rfl _ _ rfl (B + 1) 0 rfl us _ (RG.out _) Tryz.underlying75 rfl HUS.out.2 ?_)
  clear RG
  go_loopw [22] (fun vi wl => ∃ i : Nat, vi = .int .i64 (i : Int) ∧ i ≤ 8 ∧ Hid (Below w.heap.size w wl ∧ ArrIs wl B 25 (part8 32 []) ∧ ArrIs wl B4 25 (part8 32 (dig u (4 * i))))) (fun vi _ => 8 - (intOf vi).toNat)
  case atStart => exact ⟨0, rfl, Nat.zero_le _, H4.out⟩
  case round =>
    obtain ⟨i, rfl, hi, HK⟩ := hrel
    clear H4
    by_cases hlt : i < 8
    · obtain ⟨x, hx⟩ : ∃ x, u.list[i]? = some x := ⟨_, List.getElem?_eq_getElem (by show i < 8; exact hlt)⟩
      have hix : ∀ W, (Instr.index 75 (.agg us) (.int .i64 (i : Int))).run Tryz.prog W = .ok (.int .u32 (x : Int)) W := fun W => index_u32 us i x hlt (by rw [← Array.getElem?_toList, HUS.out.1]; simp [hx]) W
      have HX := Lib.hid hx
      have i1 : (i : Int) < 8 := by omega
      clear hx
      go_wp2_with fail
      go_loopw [26] (fun vj wl => ∃ j : Nat, vj = .int .i64 (j : Int) ∧ j ≤ 4 ∧ Hid (Below w.heap.size w wl ∧ ArrIs wl B 25 (part8 32 []) ∧ ArrIs wl B4 25 (part8 32 (dig u (4 * i + j))))) (fun vj _ => 4 - (intOf vj).toNat)
      case atStart => exact ⟨0, rfl, Nat.zero_le _, HK.out⟩
      case round =>
        obtain ⟨j, rfl, hj, HJ⟩ := hrel
        clear HK
        by_cases hlj : j < 4
        · obtain ⟨q1, q2, q3⟩ := HJ.out
          obtain ⟨m, hm⟩ : ∃ m, 4 * i + j = m := ⟨_, rfl⟩
          have hml : m < 32 := by omega
          have hdl : (dig u m).length = m := dig_len u m
          rw [hm] at q3
          obtain ⟨b0, hb0⟩ : ∃ b0, (part8 32 (dig u m))[m]? = some b0 := ⟨_, List.getElem?_eq_getElem (by rw [part8_len 32 _ (by omega)]; exact hml)⟩
          have c0 := q3.cell hb0
          have f0 := q3.free m
          have hsh := run_shr24 x j hlj
          have hnb : IntKind.u8.wrap ((x : Int) / 2 ^ (24 - 8 * j)) = ((digB u m : Nat) : Int) := by rw [← hm, digB_at u i j x hlj HX.out]; exact dig_num x j
          have HN : Hid (Below w.heap.size w (wr.setCell ⟨B4, m, none⟩ (v8 (digB u m))) ∧ ArrIs (wr.setCell ⟨B4, m, none⟩ (v8 (digB u m))) B 25 (part8 32 []) ∧ ArrIs (wr.setCell ⟨B4, m, none⟩ (v8 (digB u m))) B4 25 (part8 32 (dig u (m + 1)))) := by
            refine ⟨kp_set q1 (by omega), q2.far (by omega), ?_⟩
            have q4 := q3.set m (v8 (digB u m))
            rw [dig_next, part8_next 32 _ _ (by rw [hdl]; exact hml), hdl]
            exact q4
          have e1 : IntKind.i64.wrap (4 * (i : Int)) = 4 * (i : Int) := IntWalk.i64_in _ (by omega)
          have e2 : IntKind.i64.wrap (4 * (i : Int) + (j : Int)) = (m : Int) := by rw [IntWalk.i64_in _ (by omega)]; omega
          have e2' : 4 * (i : Int) + (j : Int) = (m : Int) := by omega
          have e3 : IntKind.i64.wrap (8 * (j : Int)) = 8 * (j : Int) := IntWalk.i64_in _ (by omega)
          have e4 : IntKind.i64.wrap (24 - 8 * (j : Int)) = 24 - 8 * (j : Int) := IntWalk.i64_in _ (by omega)
          have i2 : (j : Int) < 4 := by omega
          have i3 : (m : Int) < 32 := by omega
          have HM := Lib.hid hm
          clear q1 q2 q3 hb0 HJ hdl hix hm
          go_wp2
          go_roundw
          case rel => exact ⟨j + 1, by go_num, by omega, by rw [show 4 * i + (j + 1) = m + 1 by have := HM.out; omega]; exact HN.out⟩
          case measure => simp [intOf]; omega
        · have i2 : ¬ (j : Int) < 4 := by omega
          have hj4 : j = 4 := by omega
          subst hj4
          clear hix
          go_wp2
          go_roundw
          case rel => exact ⟨i + 1, by go_num, by omega, HJ.out⟩
          case measure => simp [intOf]; omega
    · obtain ⟨q1, q2, q3⟩ := HK.out
      have hi8 : i = 8 := by omega
      subst hi8
      have i1 : ¬ ((8 : Nat) : Int) < 8 := by omega
      rw [part8_full 32 _ (dig_len u _)] at q3
      obtain ⟨ds, hds⟩ : ∃ ds, ((dig u 32).map v8).toArray = ds := ⟨_, rfl⟩
      have hone : ds.all (·.oneCell') = true := by rw [← hds]; exact all8 _
      have hsz : ds.size = 32 := by rw [← hds]; simp [dig_len]
      have hif : (Tryz.prog.info? 25).map (·.size) = some ds.size := by rw [hsz]; exact size_32
      have A1 : Hid (wr.heap[B4]? = some (.cells ds 25 (0, 0))) := by rw [← hds]; exact q3
      have A0 : Hid (wr.heap[B]? = some (.cells (part8 32 []).toArray 25 (0, 0))) := q2
      have AR : Hid ((wr.setRow B ds).heap[B]? = some (.cells ds 25 (0, 0))) := setRow_heap wr _ _ _ _ _ q2
      have HBW := Lib.hid (below_setRow q1 (show w.heap.size ≤ B by omega) ds)
      have HDS : Hid (ds = ((sumQ p t).map v8).toArray) := by unfold sumQ; rw [HU.out]; exact hds.symm
      have HC := Lib.hid (show _ ∧ _ ∧ _ from ⟨hsz, hone, hif⟩)
      clear hds q1 q2 q3 hsz hone hif HK
      go_wp2_with (first
        | (refine wpList_load_row rfl _ _ rfl B4 rfl _ _ _ _ A1.out Tryz.underlying25 rfl HC.out.2.2 ?_)
        | (refine wpList_store_row rfl _ _ _ rfl B ds rfl rfl _ _ A0.out HC.out.2.2 (by rw [HC.out.1]; rfl) HC.out.2.1 ?_))
      refine bodyPost_ret (results_cell_row rfl _ _ B _ _ _ _ rfl AR.out Tryz.underlying25 rfl HC.out.2.2) rfl ?_
      exact ⟨by rw [HDS.out], by have := HBW.out; rw [hB] at this; exact this⟩
end Go.Proofs.YtcedojmhgmgcgaaGreatDoor
