/-
  cert: the statement on names of certificates.
-/
import Derived.Test.YtomolfdcdmncoaaCfT
namespace Go.Proofs.Ytomolfdcdmncoaa
open Go.RowKit Go
set_option linter.unusedVariables false
set_option linter.unusedSimpArgs false
set_option maxRecDepth 100000

structure NM where
  k : KC
  A : S3
  B : S3
  tag : UInt8
  ab : List UInt8
  bb : List UInt8
def NM.cells (x : NM) : Array Value := x.k.cells ++ #[sv x.A, sv x.B, .int .u8 (x.tag.toNat : Int)]
def NM.val (x : NM) : Value := .agg x.cells
structure IsNM (w : World) (x : NM) : Prop where
  k : IsKC w x.k
  a : IsBs w x.A.1 x.A.2.1 x.A.2.2 x.ab
  b : IsBs w x.B.1 x.B.2.1 x.B.2.2 x.bb
section
open Go.ChangeShapes Go.WideShapes Go.ChangeAt Go.Joins
theorem take_one9 {L : List Value} {k : Nat} (h : k < L.length) : ∃ c, L[k]? = some c ∧ (L.drop k).take 1 = [c] :=
  ⟨L[k], List.getElem?_eq_getElem h, by rw [List.drop_eq_getElem_cons h]; rfl⟩
theorem open_p75 {H : Type} {enc : TypeId × Value → H} {W : World} {r : Reach} {b0 : Nat} {v : Value} {d : DataW H} {p : List MemPlace} (hv : Value.okWide Try.prog W r b0 75 v)
    (h : DataW.Trod enc Try.prog W 0 (fun _ => true) true 75 v d p) : ∃ x : NM, v = x.val ∧ IsNM W x := by
  obtain ⟨cs, rfl, hsz⟩ := okWide_struct Try.underlying75 hv
  have hsz25 : cs.toList.length = 25 := by
    have := hsz.trans (show Try.prog.cellsOf 75 = 25 by kernel_rfl)
    simpa using this
  obtain ⟨fuel, hf⟩ := h
  obtain ⟨xs, n, _, _, _, hlen, hg⟩ := DataW.trod_struct Try.underlying75 hf
  have hcs : (Value.agg cs).cells.toList = cs.toList := rfl
  have c1 : Try.prog.cellsOf 28 = 22 := by kernel_rfl
  have c2 : Try.prog.cellsOf 22 = 1 := by kernel_rfl
  have c3 : Try.prog.cellsOf 5 = 1 := by kernel_rfl
  rw [hcs] at hg
  match xs, hlen with
  | [x0, x1, x2, x3], _ =>
    have g0 : DataW.trod enc Try.prog W 0 (fun _ => true) true n 28 ((cs.toList.drop 0).take (Try.prog.cellsOf 28)) = some x0 := hg 0 _ rfl
    rw [c1] at g0
    have g1 : DataW.trod enc Try.prog W 0 (fun _ => true) true n 22 ((cs.toList.drop 22).take (Try.prog.cellsOf 22)) = some x1 := hg 1 _ rfl
    rw [c2] at g1
    have g2 : DataW.trod enc Try.prog W 0 (fun _ => true) true n 22 ((cs.toList.drop 23).take (Try.prog.cellsOf 22)) = some x2 := hg 2 _ rfl
    rw [c2] at g2
    have g3 : DataW.trod enc Try.prog W 0 (fun _ => true) true n 5 ((cs.toList.drop 24).take (Try.prog.cellsOf 5)) = some x3 := hg 3 _ rfl
    rw [c3] at g3
    obtain ⟨v1, e1, t1⟩ := take_one9 (L := cs.toList) (k := 22) (by omega)
    obtain ⟨v2, e2, t2⟩ := take_one9 (L := cs.toList) (k := 23) (by omega)
    obtain ⟨v3, e3, t3⟩ := take_one9 (L := cs.toList) (k := 24) (by omega)
    rw [t1] at g1
    rw [t2] at g2
    rw [t3] at g3
    obtain ⟨A1, n1, k1, rfl⟩ : ∃ A n k, v1 = Value.slice A n k := slice_of9 g1
    obtain ⟨b1, B1⟩ := open_bs Try.underlying22 Try.underlying5 (by kernel_rfl) (show DataW.trod enc Try.prog W 0 (fun _ => true) true n 22 (Value.slice A1 n1 k1).cells.toList = some (x1.1, x1.2) by simpa [Value.cells] using g1)
    obtain ⟨A2, n2, k2, rfl⟩ : ∃ A n k, v2 = Value.slice A n k := slice_of9 g2
    obtain ⟨b2, B2⟩ := open_bs Try.underlying22 Try.underlying5 (by kernel_rfl) (show DataW.trod enc Try.prog W 0 (fun _ => true) true n 22 (Value.slice A2 n2 k2).cells.toList = some (x2.1, x2.2) by simpa [Value.cells] using g2)
    obtain ⟨z3, ez, _, w3⟩ := DataW.trod_int Try.underlying5 g3
    injection ez with ez _
    have v3 := byte_of_wf w3
    obtain ⟨x, hx, hk⟩ := open_kc (by rw [List.length_take, List.length_drop]; omega) g0
    have hx2 : ((cs.toList.drop 0).take 22).toArray = x.cells := by injection hx
    refine ⟨⟨x, (A1, n1, k1), (A2, n2, k2), UInt8.ofNat z3.toNat, b1, b2⟩, ?_, hk, B1, B2⟩
    unfold NM.val NM.cells
    rw [← hx2, v3]
    subst ez
    have hsplit : cs.toList = cs.toList.take 22 ++ [Value.slice A1 n1 k1, Value.slice A2 n2 k2, .int .u8 z3] := by
      have h1 : cs.toList.drop 22 = [Value.slice A1 n1 k1, Value.slice A2 n2 k2, .int .u8 z3] := by
        have d1 := List.drop_eq_getElem_cons (show 22 < cs.toList.length by omega)
        have d2 := List.drop_eq_getElem_cons (show 23 < cs.toList.length by omega)
        have d3 := List.drop_eq_getElem_cons (show 24 < cs.toList.length by omega)
        rw [List.getElem?_eq_getElem (show 22 < cs.toList.length by omega)] at e1
        rw [List.getElem?_eq_getElem (show 23 < cs.toList.length by omega)] at e2
        rw [List.getElem?_eq_getElem (show 24 < cs.toList.length by omega)] at e3
        injection e1 with e1
        injection e2 with e2
        injection e3 with e3
        rw [d1, d2, d3, e1, e2, e3, List.drop_of_length_le (by omega)]
      rw [← h1, List.take_append_drop]
    refine congrArg Value.agg ?_
    have h2 : cs = (cs.toList.take 22 ++ [Value.slice A1 n1 k1, Value.slice A2 n2 k2, .int .u8 z3]).toArray := by rw [← hsplit]
    rw [List.drop_zero]
    conv => lhs; rw [h2]
    simp
end

theorem rows_set2 {w : World} {base n c g : Nat} {l : List Row1} (h : RowsO w base (some ⟨g, 0, none⟩) n c l) (i j : Nat) (x y : Row1) (hb : base ≤ g) (w0 : World) (h0 : Below w0.heap.size w0 w) (hw0 : w0.heap.size ≤ base) (hx : RB w0 x.1 x.2.1 x.2.2.2) (hy : RB w0 y.1 y.2.1 y.2.2.2) :
    RowsP ((w.setCell ⟨g, i, none⟩ (Row1.val x)).setCell ⟨g, j, none⟩ (Row1.val y)) (some ⟨g, 0, none⟩) ((l.set i x).set j y) := by
  have h1 := OwnR.stored h.own i (Row1.val x)
  have h2 := OwnR.stored h1 j (Row1.val y)
  have hg : w.grownBy ((w.setCell ⟨g, i, none⟩ (Row1.val x)).setCell ⟨g, j, none⟩ (Row1.val y)) (some g) := grown_tr (grown_one w g i _) (grown_one _ g j _)
  have hbx : Below w0.heap.size w0 ((w.setCell ⟨g, i, none⟩ (Row1.val x)).setCell ⟨g, j, none⟩ (Row1.val y)) := kp_set (kp_set h0 (by omega)) (by omega)
  refine ⟨by rw [List.map_set, List.map_set]; exact h2.reads, fun z hz => ?_⟩
  rcases List.mem_or_eq_of_mem_set hz with hz | rfl
  · rcases List.mem_or_eq_of_mem_set hz with hz | rfl
    · have hr : OwnR w base 5 1 z.1 z.2.1 z.2.2.1 (z.2.2.2.map bv) := OwnB.row (h.rb z hz)
      have hk : OwnB ((w.setCell ⟨g, i, none⟩ (Row1.val x)).setCell ⟨g, j, none⟩ (Row1.val y)) base z.1 z.2.1 z.2.2.1 z.2.2.2 := OwnR.kept hr hg (OwnR.ne hr h.own (by decide))
      exact hk.rb
    · exact hx.below hbx
  · exact hy.below hbx
theorem row_cell {w : World} {base n c g : Nat} {l : List Row1} (h : RowsO w base (some ⟨g, 0, none⟩) n c l) (j : Nat) (hj : j < l.length) : w.cell? ⟨g, j, none⟩ = some (Row1.val (l.getD j Row1.nul)) := by
  obtain ⟨b, off, h1, _, hc⟩ := h.own.reads (by intro h9; have h8 := congrArg List.length h9; rw [List.length_map] at h8; simp only [List.length_nil] at h8; omega)
  cases h1
  have h2 := hc j (Row1.val (l.getD j Row1.nul)) (by rw [List.getElem?_map, List.getD_eq_getElem?_getD, List.getElem?_eq_getElem hj]; rfl)
  rwa [Nat.zero_add] at h2
theorem nm_rng (x : NM) {W : World} {g : Nat} {mk : Nat × Nat} (h : W.heap[g]? = some (.cells x.cells 75 mk)) : W.rangeAt g 0 x.k.cells.toList := fun j v hj => by
  have hlt : j < x.k.cells.size := by have := (List.getElem?_eq_some_iff.1 hj).1; simpa using this
  rw [Nat.zero_add, Lib.cell_of_heap h j]
  unfold NM.cells
  rw [Array.getElem?_append_left hlt, ← hj, Array.getElem?_toList]

set_option maxHeartbeats 4000000 in
theorem names_bigA (x : NM) (w : World) (hn : 300 < x.A.2.1) : Calls Try.prog 12 #[x.val] w fun e w' => e = .returned (.bool true) ∧ Below w.heap.size w w' := by
  have q1 : decide ((300 : Int) < (x.A.2.1 : Int)) = true := decide_eq_true (by omega)
  have q2 : decide (300 < x.A.2.1) = true := decide_eq_true (by omega)
  clear hn
  unfold NM.val
  obtain ⟨CN, HCN⟩ : ∃ CN, Hid (x.cells = CN) := ⟨_, Lib.hid rfl⟩
  obtain ⟨CC, HCC⟩ : ∃ CC, Hid (x.k.cells = CC) := ⟨_, Lib.hid rfl⟩
  have ICC : Hid ((Try.prog.info? 28).map (·.size) = some CC.size) := by rw [← HCC.out]; exact Lib.hid (kc_info x.k)
  have ICL : Hid ((Try.prog.info? 28).map (·.size) = some CC.toList.length) := by rw [Array.length_toList]; exact ICC
  have HSZ : Hid (CC.size = 22) := by rw [← HCC.out]; exact Lib.hid (kc_size9 x.k)
  have HONE : Hid (CC.all (·.oneCell') = true) := by rw [← HCC.out]; unfold Hid KC.cells; simp [caseC, Value.oneCell']
  have RNG : Hid (∀ (W : World) (g : Nat) (mk : Nat × Nat), W.heap[g]? = some (.cells CN 75 mk) → W.rangeAt g 0 CC.toList) := Lib.hid (fun W g mk h => by rw [← HCN.out] at h; rw [← HCC.out]; exact nm_rng x h)
  have N22 : Hid (CN[22]? = some (sv x.A)) := by rw [← HCN.out]; exact Lib.hid rfl
  have N23 : Hid (CN[23]? = some (sv x.B)) := by rw [← HCN.out]; exact Lib.hid rfl
  have N24 : Hid (CN[24]? = some (.int .u8 (x.tag.toNat : Int))) := by rw [← HCN.out]; exact Lib.hid rfl
  rw [HCN.out]
  go_enter Try.func12, Try.ntmps12
  go_upto_region 2 with (first | (refine wpList_load_mid rfl _ _ rfl w.heap.size 0 rfl CC.toList _ (RNG.out _ _ _ (has_new _ _)) Try.underlying28 rfl ICL.out ?_) | (refine wpList_store_row rfl _ _ _ rfl (w.heap.size + 1) CC rfl rfl _ _ (has_new' _ _ _ (by simp)) ICC.out (by rw [HSZ.out]; rfl) HONE.out ?_))
  refine wp_nm fun w0 hw0 => ?_
  have HB := Lib.hid (show Below w.heap.size w w0 by rw [← hw0]; exact below_setRow (kp_alloc (kp_alloc (Below.refl _ _) _) _) (by omega) _)
  have HK := Lib.hid (show w0.heap[w.heap.size + 1]? = some (.cells CC 28) by rw [← hw0]; exact setRow_heap _ _ _ _ _ _ (has_new' _ _ _ (by simp)))
  have HN := Lib.hid (show w0.heap[w.heap.size]? = some (.cells CN 75) by rw [← hw0, setRow_other _ _ _ _ (by omega)]; exact has_alloc (has_new _ _) _)
  clear hw0
  have c22 : w0.cell? ⟨w.heap.size, 22, none⟩ = some (sv x.A) := (Lib.cell_of_heap HN.out 22).trans N22.out
  have c23 : w0.cell? ⟨w.heap.size, 23, none⟩ = some (sv x.B) := (Lib.cell_of_heap HN.out 23).trans N23.out
  have c24 : w0.cell? ⟨w.heap.size, 24, none⟩ = some (.int .u8 (x.tag.toNat : Int)) := (Lib.cell_of_heap HN.out 24).trans N24.out
  go_wp2_with fail
  refine (works12_any _).mono ?_
  rintro e w' ⟨rfl, hb⟩
  have HBE := Lib.hid (kp_call HB.out hb)
  clear hb
  go_wp2
  go_ret
  exact ⟨rfl, HBE.out⟩

set_option maxHeartbeats 4000000 in
theorem names_bigB (x : NM) (w : World) (hm : x.A.2.1 ≤ 300) (hn : 300 < x.B.2.1) : Calls Try.prog 12 #[x.val] w fun e w' => e = .returned (.bool true) ∧ Below w.heap.size w w' := by
  have q1 : decide ((300 : Int) < (x.A.2.1 : Int)) = false := decide_eq_false (by omega)
  have q2 : decide (300 < x.A.2.1) = false := decide_eq_false (by omega)
  have q3 : decide ((300 : Int) < (x.B.2.1 : Int)) = true := decide_eq_true (by omega)
  have q4 : decide (300 < x.B.2.1) = true := decide_eq_true (by omega)
  clear hn hm
  unfold NM.val
  obtain ⟨CN, HCN⟩ : ∃ CN, Hid (x.cells = CN) := ⟨_, Lib.hid rfl⟩
  obtain ⟨CC, HCC⟩ : ∃ CC, Hid (x.k.cells = CC) := ⟨_, Lib.hid rfl⟩
  have ICC : Hid ((Try.prog.info? 28).map (·.size) = some CC.size) := by rw [← HCC.out]; exact Lib.hid (kc_info x.k)
  have ICL : Hid ((Try.prog.info? 28).map (·.size) = some CC.toList.length) := by rw [Array.length_toList]; exact ICC
  have HSZ : Hid (CC.size = 22) := by rw [← HCC.out]; exact Lib.hid (kc_size9 x.k)
  have HONE : Hid (CC.all (·.oneCell') = true) := by rw [← HCC.out]; unfold Hid KC.cells; simp [caseC, Value.oneCell']
  have RNG : Hid (∀ (W : World) (g : Nat) (mk : Nat × Nat), W.heap[g]? = some (.cells CN 75 mk) → W.rangeAt g 0 CC.toList) := Lib.hid (fun W g mk h => by rw [← HCN.out] at h; rw [← HCC.out]; exact nm_rng x h)
  have N22 : Hid (CN[22]? = some (sv x.A)) := by rw [← HCN.out]; exact Lib.hid rfl
  have N23 : Hid (CN[23]? = some (sv x.B)) := by rw [← HCN.out]; exact Lib.hid rfl
  have N24 : Hid (CN[24]? = some (.int .u8 (x.tag.toNat : Int))) := by rw [← HCN.out]; exact Lib.hid rfl
  rw [HCN.out]
  go_enter Try.func12, Try.ntmps12
  go_upto_region 2 with (first | (refine wpList_load_mid rfl _ _ rfl w.heap.size 0 rfl CC.toList _ (RNG.out _ _ _ (has_new _ _)) Try.underlying28 rfl ICL.out ?_) | (refine wpList_store_row rfl _ _ _ rfl (w.heap.size + 1) CC rfl rfl _ _ (has_new' _ _ _ (by simp)) ICC.out (by rw [HSZ.out]; rfl) HONE.out ?_))
  refine wp_nm fun w0 hw0 => ?_
  have HB := Lib.hid (show Below w.heap.size w w0 by rw [← hw0]; exact below_setRow (kp_alloc (kp_alloc (Below.refl _ _) _) _) (by omega) _)
  have HK := Lib.hid (show w0.heap[w.heap.size + 1]? = some (.cells CC 28) by rw [← hw0]; exact setRow_heap _ _ _ _ _ _ (has_new' _ _ _ (by simp)))
  have HN := Lib.hid (show w0.heap[w.heap.size]? = some (.cells CN 75) by rw [← hw0, setRow_other _ _ _ _ (by omega)]; exact has_alloc (has_new _ _) _)
  clear hw0
  have c22 : w0.cell? ⟨w.heap.size, 22, none⟩ = some (sv x.A) := (Lib.cell_of_heap HN.out 22).trans N22.out
  have c23 : w0.cell? ⟨w.heap.size, 23, none⟩ = some (sv x.B) := (Lib.cell_of_heap HN.out 23).trans N23.out
  have c24 : w0.cell? ⟨w.heap.size, 24, none⟩ = some (.int .u8 (x.tag.toNat : Int)) := (Lib.cell_of_heap HN.out 24).trans N24.out
  go_wp2_with fail
  refine (works12_any _).mono ?_
  rintro e w' ⟨rfl, hb⟩
  have HBE := Lib.hid (kp_call HB.out hb)
  clear hb
  go_wp2
  go_ret
  exact ⟨rfl, HBE.out⟩

theorem and_223 (t : UInt8) : (t &&& 223).toNat / 32 % 2 = 0 := by
  have key : ∀ n, n < 256 → (UInt8.ofNat n &&& 223).toNat / 32 % 2 = 0 := by decide +kernel
  have h := key t.toNat t.toNat_lt
  rwa [UInt8.ofNat_toNat] at h
theorem andnot_all (t : UInt8) : bits BinOp.andNot IntKind.u8 (t.toNat : Int) 32 = (((t &&& 223).toNat : Nat) : Int) := by
  have key : ∀ n : Nat, n < 256 → bits BinOp.andNot IntKind.u8 (n : Int) 32 = (((UInt8.ofNat n &&& 223).toNat : Nat) : Int) := by decide +kernel
  have h := key t.toNat t.toNat_lt
  rwa [UInt8.ofNat_toNat] at h
theorem PA.yes {base : Nat} {bs : List UInt8} {D : Array Value} {W : World} {c : Ce} (h : PA base bs D W) (hc : certQ bs = .inr c) : ∃ raw tbs iss sub ser n sig : S3, D = certC raw tbs iss sub ser c.frm c.til n c.e sig c.xt ∧ OwnS3 W base raw c.raw ∧ OwnS3 W base tbs c.tbs ∧ OwnS3 W base iss c.iss ∧ OwnS3 W base sub c.sub ∧ OwnS3 W base ser c.ser ∧ OwnS3 W base n c.n ∧ OwnS3 W base sig c.sig := by
  unfold PA at h
  rw [hc] at h
  exact h
theorem run_andnot32 (t : UInt8) {W : World} : (binOp BinOp.andNot 5 (.int .u8 (t.toNat : Int)) (.int .u8 32)).run Try.prog W = .ok (.int .u8 ((t &&& 223).toNat : Int)) W := by
  rw [← andnot_all t]
  simp [binOp, go_sem, Sem.run_bind]

set_option maxHeartbeats 16000000 in
theorem names_go (x : NM) (w : World) (hk : IsNM w x) (ha : x.A.2.1 ≤ 300) (hb : x.B.2.1 ≤ 300) : Calls Try.prog 12 #[x.val] w fun e w' => e = .returned (.bool true) ∧ Below w.heap.size w w' := by
  have q1 : decide ((300 : Int) < (x.A.2.1 : Int)) = false := decide_eq_false (by omega)
  have q2 : decide (300 < x.A.2.1) = false := decide_eq_false (by omega)
  have q3 : decide ((300 : Int) < (x.B.2.1 : Int)) = false := decide_eq_false (by omega)
  have q4 : decide (300 < x.B.2.1) = false := decide_eq_false (by omega)
  have HKC := Lib.hid hk.k
  have HA := Lib.hid hk.a.rb
  have HBb := Lib.hid hk.b.rb
  have hal := hk.a.len
  have hbl := hk.b.len
  clear hk
  unfold NM.val
  obtain ⟨CN, HCN⟩ : ∃ CN, Hid (x.cells = CN) := ⟨_, Lib.hid rfl⟩
  obtain ⟨CC, HCC⟩ : ∃ CC, Hid (x.k.cells = CC) := ⟨_, Lib.hid rfl⟩
  have ICC : Hid ((Try.prog.info? 28).map (·.size) = some CC.size) := by rw [← HCC.out]; exact Lib.hid (kc_info x.k)
  have ICL : Hid ((Try.prog.info? 28).map (·.size) = some CC.toList.length) := by rw [Array.length_toList]; exact ICC
  have HSZ : Hid (CC.size = 22) := by rw [← HCC.out]; exact Lib.hid (kc_size9 x.k)
  have HONE : Hid (CC.all (·.oneCell') = true) := by rw [← HCC.out]; unfold Hid KC.cells; simp [caseC, Value.oneCell']
  have RNG : Hid (∀ (W : World) (g : Nat) (mk : Nat × Nat), W.heap[g]? = some (.cells CN 75 mk) → W.rangeAt g 0 CC.toList) := Lib.hid (fun W g mk h => by rw [← HCN.out] at h; rw [← HCC.out]; exact nm_rng x h)
  have N22 : Hid (CN[22]? = some (sv x.A)) := by rw [← HCN.out]; exact Lib.hid rfl
  have N23 : Hid (CN[23]? = some (sv x.B)) := by rw [← HCN.out]; exact Lib.hid rfl
  have N24 : Hid (CN[24]? = some (.int .u8 (x.tag.toNat : Int))) := by rw [← HCN.out]; exact Lib.hid rfl
  rw [HCN.out]
  go_enter Try.func12, Try.ntmps12
  go_upto_region 2 with (first | (refine wpList_load_mid rfl _ _ rfl w.heap.size 0 rfl CC.toList _ (RNG.out _ _ _ (has_new _ _)) Try.underlying28 rfl ICL.out ?_) | (refine wpList_store_row rfl _ _ _ rfl (w.heap.size + 1) CC rfl rfl _ _ (has_new' _ _ _ (by simp)) ICC.out (by rw [HSZ.out]; rfl) HONE.out ?_))
  refine wp_nm fun w0 hw0 => ?_
  have HB := Lib.hid (show Below w.heap.size w w0 by rw [← hw0]; exact below_setRow (kp_alloc (kp_alloc (Below.refl _ _) _) _) (by omega) _)
  have HK := Lib.hid (show w0.heap[w.heap.size + 1]? = some (.cells CC 28) by rw [← hw0]; exact setRow_heap _ _ _ _ _ _ (has_new' _ _ _ (by simp)))
  have HN := Lib.hid (show w0.heap[w.heap.size]? = some (.cells CN 75) by rw [← hw0, setRow_other _ _ _ _ (by omega)]; exact has_alloc (has_new _ _) _)
  clear hw0
  have c22 : w0.cell? ⟨w.heap.size, 22, none⟩ = some (sv x.A) := (Lib.cell_of_heap HN.out 22).trans N22.out
  have c23 : w0.cell? ⟨w.heap.size, 23, none⟩ = some (sv x.B) := (Lib.cell_of_heap HN.out 23).trans N23.out
  have c24 : w0.cell? ⟨w.heap.size, 24, none⟩ = some (.int .u8 (x.tag.toNat : Int)) := (Lib.cell_of_heap HN.out 24).trans N24.out
  replace HA := Lib.hid (HA.out.below HB.out)
  replace HBb := Lib.hid (HBb.out.below HB.out)
  go_wp2_with fail
  clear c22 c23 c24 q1 q2 q3 q4
  refine (rwrite_any 4 x.A.1 x.A.2.1 x.A.2.2 x.ab w0 HA.out (by omega)).mono ?_
  rintro e' w1 ⟨A1, n1, c1, rfl, ho, hb⟩
  have HO1 := Lib.hid ho.rb
  have i1 := oneB_len x.ab (by omega)
  have i2 := twoB_len x.ab x.bb (by omega) (by omega)
  replace HB := Lib.hid (kp_call HB.out hb)
  replace HK := Lib.hid (has_below HK.out hb)
  replace HA := Lib.hid (HA.out.below hb)
  replace HBb := Lib.hid (HBb.out.below hb)
  clear ho hb
  go_wp2_with fail
  refine (seq_any (some ⟨w1.heap.size, 0, none⟩) 1 1 [(A1, n1, c1, wrQ 4 x.ab)] _ (RowsP.new rfl (all1R HO1.out all0R)) rfl (by omega) (by rw [flat_map]; simp only [List.map_cons, List.map_nil, List.flatten_cons, List.flatten_nil, List.append_nil]; omega)).mono ?_
  rintro e' w2 ⟨A7, n7, c7, rfl, ho, hb⟩
  replace hb := kp_call (kp_alloc (Below.refl _ _) (.cells #[.slice A1 n1 c1] 22)) hb
  rw [flat_map] at ho
  have HO7 := Lib.hid (show RB w2 A7 n7 (oneB x.ab) by have h9 := ho.rb; unfold oneB; simpa only [List.map_cons, List.map_nil, List.flatten_cons, List.flatten_nil, List.append_nil] using h9)
  replace HB := Lib.hid (kp_call HB.out hb)
  replace HK := Lib.hid (has_below HK.out hb)
  replace HA := Lib.hid (HA.out.below hb)
  replace HBb := Lib.hid (HBb.out.below hb)
  clear ho hb HO1
  go_wp2_with fail
  refine (rwrite_any 12 x.B.1 x.B.2.1 x.B.2.2 x.bb w2 HBb.out (by omega)).mono ?_
  rintro e' w3 ⟨A1, n1, c1, rfl, ho, hb⟩
  have HO1 := Lib.hid ho.rb
  replace HB := Lib.hid (kp_call HB.out hb)
  replace HK := Lib.hid (has_below HK.out hb)
  replace HA := Lib.hid (HA.out.below hb)
  replace HBb := Lib.hid (HBb.out.below hb)
  replace HO7 := Lib.hid (HO7.out.below hb)
  clear ho hb
  go_wp2_with fail
  refine (rwrite_any 4 x.A.1 x.A.2.1 x.A.2.2 x.ab w3 HA.out (by omega)).mono ?_
  rintro e' w4 ⟨A2, n2, c2, rfl, ho, hb⟩
  have HO2 := Lib.hid ho.rb
  replace HB := Lib.hid (kp_call HB.out hb)
  replace HK := Lib.hid (has_below HK.out hb)
  replace HA := Lib.hid (HA.out.below hb)
  replace HBb := Lib.hid (HBb.out.below hb)
  replace HO7 := Lib.hid (HO7.out.below hb)
  replace HO1 := Lib.hid (HO1.out.below hb)
  clear ho hb
  go_wp2_with fail
  refine (seq_any (some ⟨w4.heap.size, 0, none⟩) 2 2 [(A1, n1, c1, wrQ 12 x.bb), (A2, n2, c2, wrQ 4 x.ab)] _ (RowsP.new rfl (all1R HO1.out (all1R HO2.out all0R))) rfl (by omega) (by rw [flat_map]; simp only [List.map_cons, List.map_nil, List.flatten_cons, List.flatten_nil, List.append_nil]; omega)).mono ?_
  rintro e' w5 ⟨A8, n8, c8, rfl, ho, hb⟩
  replace hb := kp_call (kp_alloc (Below.refl _ _) (.cells #[.slice A1 n1 c1, .slice A2 n2 c2] 22)) hb
  rw [flat_map] at ho
  have HO8 := Lib.hid (show RB w5 A8 n8 (twoB x.ab x.bb) by have h9 := ho.rb; unfold twoB; simpa only [List.map_cons, List.map_nil, List.flatten_cons, List.flatten_nil, List.append_nil] using h9)
  replace HB := Lib.hid (kp_call HB.out hb)
  replace HK := Lib.hid (has_below HK.out hb)
  replace HA := Lib.hid (HA.out.below hb)
  replace HBb := Lib.hid (HBb.out.below hb)
  replace HO7 := Lib.hid (HO7.out.below hb)
  clear ho hb HO1 HO2
  go_wp2_with (refine wpList_load_row rfl _ _ rfl (w.heap.size + 1) rfl _ CC _ _ HK.out Try.underlying28 rfl ICC.out ?_)
  rw [← HCC.out]
  refine (x.k.elems w HKC.out w5 HB.out).mono ?_
  rw [HCC.out]
  rintro e' w6 ⟨AE, nE, cE, lE, rfl, hR, hl, hb⟩
  have hn7 : nE = 7 := by have h1 := hR.len; have h2 := congrArg List.length hl; rw [List.length_map, elL_len] at h2; omega
  subst hn7
  obtain ⟨gE, rfl, hgE, _⟩ := hR.own.shape (by have := hR.own.cap; omega)
  have hl7 := hR.len
  have d3 := row_cell hR 3 (by omega)
  have d5 := row_cell hR 5 (by omega)
  have z3 : w6.frozen? ⟨gE, 3, none⟩ = false := OwnR.free hR.own 3
  have z5 : w6.frozen? ⟨gE, 5, none⟩ = false := OwnR.free hR.own 5
  have HRR := Lib.hid hR
  have HLL := Lib.hid hl
  have hne : w.heap.size + 1 ≠ gE := by have := block_lt HK.out; omega
  have HB5 := Lib.hid hb
  have hz5 := HB.out.size
  go_upto_region 12 with (fail)
  clear d3 d5 z3 z5
  refine wp_nm fun w7 hw7 => ?_
  have HP := Lib.hid (show RowsP w7 (some ⟨gE, 0, none⟩) ((lE.set 3 (A7, n7, c7, oneB x.ab)).set 5 (A8, n8, c8, twoB x.ab x.bb)) by
    rw [← hw7]
    exact rows_set2 HRR.out 3 5 (A7, n7, c7, oneB x.ab) (A8, n8, c8, twoB x.ab x.bb) hgE w5 HB5.out (Nat.le_refl _) HO7.out HO8.out)
  have HLS := Lib.hid (show ((lE.set 3 (A7, n7, c7, oneB x.ab)).set 5 (A8, n8, c8, twoB x.ab x.bb)).map (·.2.2.2) = nmL x.k x.ab x.bb by rw [List.map_set, List.map_set, HLL.out]; rfl)
  have HLN := Lib.hid (show ((lE.set 3 (A7, n7, c7, oneB x.ab)).set 5 (A8, n8, c8, twoB x.ab x.bb)).length = 7 by rw [List.length_set, List.length_set]; exact hl7)
  have hbb : Below w5.heap.size w5 w7 := by rw [← hw7]; exact kp_set (kp_set HB5.out hgE) hgE
  clear hw7 hl hR hl7 hb HRR HLL hne HB5 hz5 hgE
  replace HB := Lib.hid (kp_call HB.out hbb)
  replace HK := Lib.hid (has_below HK.out hbb)
  replace HA := Lib.hid (HA.out.below hbb)
  replace HBb := Lib.hid (HBb.out.below hbb)
  replace HO7 := Lib.hid (HO7.out.below hbb)
  replace HO8 := Lib.hid (HO8.out.below hbb)
  clear hbb
  go_wp2_with fail
  refine (seq_any (some ⟨gE, 0, none⟩) 7 cE _ w7 HP.out HLN.out (by omega) (by rw [flat_map, HLS.out]; have := nm_len x.k x.ab x.bb (by omega) (by omega); omega)).mono ?_
  rintro e' w8 ⟨AS, nS, cS, rfl, ho, hb⟩
  rw [flat_map, HLS.out] at ho
  have HS := Lib.hid ho.rb
  have hnl := nm_len x.k x.ab x.bb (by omega) (by omega)
  have hnw := wrQ_len 48 (nmL x.k x.ab x.bb).flatten (by omega)
  have hnS : nS ≤ 3100 := by have h1 := ho.len; omega
  replace HB := Lib.hid (kp_call HB.out hb)
  replace HK := Lib.hid (has_below HK.out hb)
  replace HA := Lib.hid (HA.out.below hb)
  replace HBb := Lib.hid (HBb.out.below hb)
  replace HO7 := Lib.hid (HO7.out.below hb)
  replace HO8 := Lib.hid (HO8.out.below hb)
  clear ho hb HP HLS HLN
  go_wp2_with fail
  refine (wwrite_any AS nS cS _ none 0 0 [] w8 HS.out ⟨rfl, fun h => absurd rfl h⟩ (by omega) (by omega)).mono ?_
  rintro e' w9 ⟨AC, nC, cC, rfl, ho, hb⟩
  have HC := Lib.hid (show OwnB w9 w8.heap.size AC nC cC (nmC x.k x.ab x.bb) from ho)
  have hnC : nC ≤ 4000 := by have h1 := ho.len; have h2 := cert_len (wrQ 48 (nmL x.k x.ab x.bb).flatten) [] (by omega) (by simp); simp only [List.length_nil] at h2; omega
  replace HB := Lib.hid (kp_call HB.out hb)
  replace HK := Lib.hid (has_below HK.out hb)
  replace HA := Lib.hid (HA.out.below hb)
  replace HBb := Lib.hid (HBb.out.below hb)
  replace HO7 := Lib.hid (HO7.out.below hb)
  replace HO8 := Lib.hid (HO8.out.below hb)
  clear ho hb HS
  go_wp2_with fail
  refine (parse9_any AC nC cC (nmC x.k x.ab x.bb) w9 HC.out.rb HC.out.cap.1 HC.out.cap.2 (by omega)).mono ?_
  rintro e' w10 ⟨D, rfl, hp, hb⟩
  obtain ⟨ce, hce, hci, hcs⟩ := nm_yes x.k x.ab x.bb (by omega) (by omega)
  rw [er_yes hce]
  have HS2 := Lib.hid hp.size
  have ID := Lib.hid (info24 hp.size.1)
  have HPA := Lib.hid hp
  replace HB := Lib.hid (kp_call HB.out hb)
  replace HK := Lib.hid (has_below HK.out hb)
  replace HA := Lib.hid (HA.out.below hb)
  replace HBb := Lib.hid (HBb.out.below hb)
  replace HO7 := Lib.hid (HO7.out.below hb)
  replace HO8 := Lib.hid (HO8.out.below hb)
  clear hp hb HC
  go_upto_region 13 with (refine wpList_store_row rfl _ _ _ rfl w10.heap.size D rfl rfl _ _ (has_new w10 _) ID.out (by rw [HS2.out.1]; rfl) HS2.out.2 ?_)
  refine wp_nm fun w11 hw11 => ?_
  have hbb : Below w10.heap.size w10 w11 := by rw [← hw11]; exact below_setRow (kp_alloc (Below.refl _ _) _) (Nat.le_refl _) _
  have HD := Lib.hid (show w11.heap[w10.heap.size]? = some (.cells D 33) by rw [← hw11]; exact setRow_heap _ _ _ _ _ _ (has_new w10 _))
  replace HPA := Lib.hid (HPA.out.below hbb)
  clear hw11 ID HS2
  replace HB := Lib.hid (kp_call HB.out hbb)
  replace HK := Lib.hid (has_below HK.out hbb)
  replace HA := Lib.hid (HA.out.below hbb)
  replace HBb := Lib.hid (HBb.out.below hbb)
  replace HO7 := Lib.hid (HO7.out.below hbb)
  replace HO8 := Lib.hid (HO8.out.below hbb)
  clear hbb
  obtain ⟨tg', htg⟩ : ∃ t : UInt8, x.tag &&& 223 = t := ⟨_, rfl⟩
  have HTG := Lib.hid htg
  have htb : tg'.toNat / 32 % 2 = 0 := by rw [← htg]; exact and_223 x.tag
  clear htg
  refine wp_region_monoS (by kernel_rfl) (by kernel_rfl) [57, 58, 59, 60, 61, 62, 63, 56, 64, 65, 12] (by rfl) (by rfl) (by decide) (by rfl) (fun j => ([MR.eq (.agg CC), MR.eq (.int .u8 (x.tag.toNat : Int)), MR.eq (.int .u8 (tg'.toNat : Int)), MR.eq (sv x.A), MR.own (w.heap.size) (wrQ tg' x.ab), MR.own (w.heap.size) (tgC x.k tg' x.ab), MR.par (w.heap.size) (tgC x.k tg' x.ab), MR.par (w.heap.size) (tgC x.k tg' x.ab), MR.par0 (w.heap.size) (tgC x.k tg' x.ab), MR.eq (.int .i64 (erQ (tgC x.k tg' x.ab) : Int)), MR.fresh0 (w11.heap.size)] : List MR).getD j MR.any) [] [[], [], [1], [], [1, 2, 3], [0, 1, 2, 3, 4], [0, 1, 2, 3, 4, 5], [0, 1, 2, 3, 4, 5, 6], [0, 1, 2, 3, 4, 5, 6, 7], [0, 1, 2, 3, 4, 5, 6, 7], [], [0, 1, 2, 3, 4, 5, 6, 7, 8, 10], [0, 1, 2, 3, 4, 5, 6, 7, 8, 9, 10, 11]] (by kernel_rfl) (by kernel_rfl) 9 (by decide) (by kernel_rfl) (by kernel_rfl) _ (by rfl) _ 12 64 (by rfl) (by rfl) (by rfl) (by decide) (by decide) _ (by rfl) (by rfl) ?_ (by rfl) ?_ ?_
  · intro ρ W E
    obtain ⟨D56, e56, P56⟩ : (MR.par (w.heap.size) (tgC x.k tg' x.ab)).p (ρ (.tmp 56)) W := E.dep 7 (by kernel_rfl)
    exact ⟨_, pure_extract rfl e56 (fun _ => by kernel_rfl), rfl⟩
  · intro i hi ρ W E
    simp only [List.length_cons, List.length_nil] at hi
    have hbW : w.heap.size ≤ W.heap.size := Nat.le_trans HB.out.size E.up.size
    rcases (show i = 0 ∨ i = 1 ∨ i = 2 ∨ i = 3 ∨ i = 4 ∨ i = 5 ∨ i = 6 ∨ i = 7 ∨ i = 8 ∨ i = 9 ∨ i = 10 by omega) with rfl | rfl | rfl | rfl | rfl | rfl | rfl | rfl | rfl | rfl | rfl
    · -- 0: load 28 t3
      refine mono_at (by rfl) rfl ?_
      have e3 : ρ (.tmp 3) = .pointer (some ⟨(w.heap.size + 1), 0, none⟩) := E.old 3 rfl
      exact mo_loadr rfl e3 (has_below HK.out E.up) Try.underlying28 rfl ICC.out ⟨Below.refl _ _, rfl⟩
    · -- 1: move t6
      refine mono_at (by rfl) rfl ?_
      have e6 : ρ (.tmp 6) = .int .u8 (x.tag.toNat : Int) := E.old 6 rfl
      exact mo_move rfl ⟨Below.refl _ _, e6⟩
    · -- 2: binOp BinOp.andNot 5 t58 (const (32:u8)) 5
      refine mono_at (by rfl) rfl ?_
      have e58 : ρ (.tmp 58) = .int .u8 (x.tag.toNat : Int) := E.dep 1 (by kernel_rfl)
      exact mo_bin rfl (fun _ _ => rfl) e58 (E.cst _) (by rw [← HTG.out]; exact run_andnot32 x.tag) ⟨Below.refl _ _, rfl⟩
    · -- 3: move t4
      refine mono_at (by rfl) rfl ?_
      have e4 : ρ (.tmp 4) = sv x.A := E.old 4 rfl
      exact mo_move rfl ⟨Below.refl _ _, e4⟩
    · -- 4: call { value (Operand.func 26), args := #[t59, t60], argType
      refine mono_at (by rfl) rfl ?_
      have e59 : ρ (.tmp 59) = .int .u8 (tg'.toNat : Int) := E.dep 2 (by kernel_rfl)
      have e60 : ρ (.tmp 60) = sv x.A := E.dep 3 (by kernel_rfl)
      refine mo_call rfl (E.fn _) (fun _ _ => by kernel_rfl) (args := #[.int .u8 (tg'.toNat : Int), sv x.A]) (by simp only [List.map_toArray, List.map_cons, List.map_nil, List.length_cons, List.length_nil, Nat.reduceAdd, E.cst, e59, e60]) ?_
      exact writeM tg' (HA.out.below E.up) (by omega) hbW
    · -- 5: call { value (Operand.func 29), args := #[t57, const (3:i64)
      refine mono_at (by rfl) rfl ?_
      have e57 : ρ (.tmp 57) = .agg CC := E.dep 0 (by kernel_rfl)
      obtain ⟨A61, n61, c61, e61, o61⟩ : (MR.own (w.heap.size) (wrQ tg' x.ab)).p (ρ (.tmp 61)) W := E.dep 4 (by kernel_rfl)
      refine mo_call rfl (E.fn _) (fun _ _ => by kernel_rfl) (args := #[.agg CC, .int .i64 3, .slice A61 n61 c61]) (by simp only [List.map_toArray, List.map_cons, List.map_nil, List.length_cons, List.length_nil, Nat.reduceAdd, E.cst, e57, e61]) ?_
      rw [← HCC.out]
      exact fresh_own (x.k.put w HKC.out W (HB.out.trans (E.up.mono HB.out.size)) 3 3 rfl (by omega) o61.rb (by have := wrQ_len tg' x.ab (by omega); omega)) hbW
    · -- 6: call { value (Operand.func 15), args := #[t62], argTypes := 
      refine mono_at (by rfl) rfl ?_
      obtain ⟨A62, n62, c62, e62, o62⟩ : (MR.own (w.heap.size) (tgC x.k tg' x.ab)).p (ρ (.tmp 62)) W := E.dep 5 (by kernel_rfl)
      refine mo_call rfl (E.fn _) (fun _ _ => by kernel_rfl) (args := #[.slice A62 n62 c62]) (by simp only [List.map_toArray, List.map_cons, List.map_nil, List.length_cons, List.length_nil, Nat.reduceAdd, E.cst, e62]) ?_
      exact parM o62.rb o62.cap.1 o62.cap.2 (by have h1 := tg_len x.k tg' x.ab (by omega); have h2 := wrQ_len 48 (x.k.L.set 3 (wrQ tg' x.ab)).flatten (by omega); have h3 := take_len x.k.gb 100; have h4 := cert_len (wrQ 48 (x.k.L.set 3 (wrQ tg' x.ab)).flatten) (x.k.gb.take 100) (by omega) (by omega); unfold tgC; omega) hbW
    · -- 7: move t63
      refine mono_at (by rfl) rfl ?_
      obtain ⟨D63, e63, P63⟩ : (MR.par (w.heap.size) (tgC x.k tg' x.ab)).p (ρ (.tmp 63)) W := E.dep 6 (by kernel_rfl)
      exact mo_move rfl ⟨Below.refl _ _, E.dep 6 (by kernel_rfl)⟩
    · -- 8: extract t56 0
      refine mono_at (by rfl) rfl ?_
      obtain ⟨D56, e56, P56⟩ : (MR.par (w.heap.size) (tgC x.k tg' x.ab)).p (ρ (.tmp 56)) W := E.dep 7 (by kernel_rfl)
      exact mo_extract rfl e56 (by kernel_rfl) ⟨Below.refl _ _, _, rfl, P56⟩
    · -- 9: extract t56 1
      refine mono_at (by rfl) rfl ?_
      obtain ⟨D56, e56, P56⟩ : (MR.par (w.heap.size) (tgC x.k tg' x.ab)).p (ρ (.tmp 56)) W := E.dep 7 (by kernel_rfl)
      exact mo_extract rfl e56 (by kernel_rfl) ⟨Below.refl _ _, rfl⟩
    · -- 10: alloc 33
      refine mono_at (by rfl) rfl ?_
      exact mo_alloc rfl run_alloc0 ⟨kp_alloc (Below.refl _ _) _, _, rfl, E.up.size, has_new _ _⟩
  · intro u W hbU hR
    obtain ⟨Du64, eu64, Pu64⟩ : (MR.par0 (w.heap.size) (tgC x.k tg' x.ab)).p (u 8) W := hR 8 (by decide)
    have hu65 : u 9 = .int .i64 (erQ (tgC x.k tg' x.ab) : Int) := hR 9 (by decide)
    obtain ⟨gu12, eu12, Lu12, Zu12⟩ : (MR.fresh0 (w11.heap.size)).p (u 10) W := hR 10 (by decide)
    clear hR
    simp only [lay, Nat.reduceAdd, List.setIfInBounds_toArray, List.set_cons_zero, List.set_cons_succ]
    refine ⟨_, (by show (Instr.storeAt _ (u 10) (u 8)).run _ W = _; rw [eu12, eu64]; exact run_storeAt_row9 W gu12 _ _ _ Du64 Zu12 (info24 Pu64.size.1) (by rw [Pu64.size.1]; rfl) Pu64.size.2), wpOp_val (v := u 9) (by rfl) rfl (by rfl) ?_⟩
    dsimp only [Act.put]
    simp only [List.setIfInBounds_toArray, List.set_cons_zero, List.set_cons_succ, eu64, hu65, eu12]
    clear eu64 hu65 eu12
    have HB1 := Lib.hid (kp_call HB.out hbU)
    have HD1 := Lib.hid (has_below HD.out hbU)
    have HPA1 := Lib.hid (HPA.out.below hbU)
    have HO71 := Lib.hid (HO7.out.below hbU)
    have HO81 := Lib.hid (HO8.out.below hbU)
    have hgd : w10.heap.size ≠ gu12 := by have := block_lt HD.out; omega
    have hg12 := Nat.le_trans HB.out.size Lu12
    rw [er_no (tg_no x.k tg' x.ab (by omega) htb)]
    go_upto_region 14 with (fail)
    refine wp_nm fun w12 hw12 => ?_
    have HG : Hid (W.grownBy w12 (some gu12)) := by rw [← hw12]; exact Lib.hid (grown_row ..)
    have hb12 : Below w11.heap.size w11 w12 := hbU.grown HG.out (hbU.size) (fun k hk => by injection hk with hk; omega)
    replace HB := Lib.hid (kp_call HB.out hb12)
    replace HD := Lib.hid (has_below HD.out hb12)
    replace HPA := Lib.hid (HPA.out.below hb12)
    replace HO7 := Lib.hid (HO7.out.below hb12)
    replace HO8 := Lib.hid (HO8.out.below hb12)
    clear hw12 HG HB1 HD1 HPA1 HO71 HO81 hb12 hbU Zu12 Lu12 Pu64 hgd hg12
    obtain ⟨raw, tbs, iss, sub, ser, nn, sig, hD, _, _, hiss, hsub, _⟩ := PA.yes HPA.out hce
    rw [hci] at hiss
    rw [hcs] at hsub
    have c2' : w12.cell? ⟨w10.heap.size, 2, none⟩ = some (sv iss) := by have h9 := HD.out; rw [hD] at h9; exact Lib.cell_of_heap h9 2
    have c3' : w12.cell? ⟨w10.heap.size, 3, none⟩ = some (sv sub) := by have h9 := HD.out; rw [hD] at h9; exact Lib.cell_of_heap h9 3
    have k1 := run_bstring (c := iss.2.2) (OwnB.rb hiss)
    have k2 := run_bstring (c := sub.2.2) (OwnB.rb hsub)
    have k3 := fun c => run_bstring (c := c) HO7.out
    have k4 := fun c => run_bstring (c := c) HO8.out
    clear hiss hsub hD HPA HD hce hci hcs
    go_wp2_with fail
    refine (works12_any _).mono ?_
    rintro e w' ⟨rfl, hb⟩
    have HBE := Lib.hid (kp_call HB.out hb)
    clear hb
    go_wp2
    go_ret
    exact ⟨rfl, HBE.out⟩

theorem names_row (x : NM) (w : World) (hk : IsNM w x) : Calls Try.prog 12 #[x.val] w fun e w' => e = .returned (.bool true) ∧ Below w.heap.size w w' := by
  by_cases h1 : 300 < x.A.2.1
  · exact names_bigA x w h1
  · by_cases h2 : 300 < x.B.2.1
    · exact names_bigB x w (by omega) h2
    · exact names_go x w hk (by omega) (by omega)
end Go.Proofs.Ytomolfdcdmncoaa
