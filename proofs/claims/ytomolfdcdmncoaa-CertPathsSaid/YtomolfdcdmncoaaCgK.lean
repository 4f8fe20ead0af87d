/-
  cert: the statement on how many may stand between.
-/
import Derived.Test.YtomolfdcdmncoaaCgI
import Derived.Test.YtomolfdcdmncoaaCfX
namespace Go.Proofs.Ytomolfdcdmncoaa
open Go.RowKit Go
set_option linter.unusedVariables false
set_option linter.unusedSimpArgs false
set_option maxRecDepth 100000

structure LM where
  k : KC
  ca : Bool
  told : Bool
  p : Nat
def LM.cells (x : LM) : Array Value := x.k.cells ++ #[.bool x.ca, .bool x.told, .int .u16 (x.p : Int)]
def LM.val (x : LM) : Value := .agg x.cells
structure IsLM (w : World) (x : LM) : Prop where
  k : IsKC w x.k
  p : x.p < 65536
section
open Go.ChangeShapes Go.WideShapes Go.ChangeAt Go.Joins
theorem take_oneL {L : List Value} {k : Nat} (h : k < L.length) : ∃ c, L[k]? = some c ∧ (L.drop k).take 1 = [c] :=
  ⟨L[k], List.getElem?_eq_getElem h, by rw [List.drop_eq_getElem_cons h]; rfl⟩
theorem open_p63 {H : Type} {enc : TypeId × Value → H} {W : World} {r : Reach} {b0 : Nat} {v : Value} {d : DataW H} {p : List MemPlace} (hv : Value.okWide Try.prog W r b0 63 v)
    (h : DataW.Trod enc Try.prog W 0 (fun _ => true) true 63 v d p) : ∃ x : LM, v = x.val ∧ IsLM W x := by
  obtain ⟨cs, rfl, hsz⟩ := okWide_struct Try.underlying63 hv
  have hsz25 : cs.toList.length = 25 := by
    have := hsz.trans (show Try.prog.cellsOf 63 = 25 by kernel_rfl)
    simpa using this
  obtain ⟨fuel, hf⟩ := h
  obtain ⟨xs, n, _, _, _, hlen, hg⟩ := DataW.trod_struct Try.underlying63 hf
  have hcs : (Value.agg cs).cells.toList = cs.toList := rfl
  have c1 : Try.prog.cellsOf 28 = 22 := by kernel_rfl
  have c2 : Try.prog.cellsOf 4 = 1 := by kernel_rfl
  have c3 : Try.prog.cellsOf 23 = 1 := by kernel_rfl
  rw [hcs] at hg
  match xs, hlen with
  | [x0, x1, x2, x3], _ =>
    have g0 : DataW.trod enc Try.prog W 0 (fun _ => true) true n 28 ((cs.toList.drop 0).take (Try.prog.cellsOf 28)) = some x0 := hg 0 _ rfl
    rw [c1] at g0
    have g1 : DataW.trod enc Try.prog W 0 (fun _ => true) true n 4 ((cs.toList.drop 22).take (Try.prog.cellsOf 4)) = some x1 := hg 1 _ rfl
    rw [c2] at g1
    have g2 : DataW.trod enc Try.prog W 0 (fun _ => true) true n 4 ((cs.toList.drop 23).take (Try.prog.cellsOf 4)) = some x2 := hg 2 _ rfl
    rw [c2] at g2
    have g3 : DataW.trod enc Try.prog W 0 (fun _ => true) true n 23 ((cs.toList.drop 24).take (Try.prog.cellsOf 23)) = some x3 := hg 3 _ rfl
    rw [c3] at g3
    obtain ⟨v1, e1, t1⟩ := take_oneL (L := cs.toList) (k := 22) (by omega)
    obtain ⟨v2, e2, t2⟩ := take_oneL (L := cs.toList) (k := 23) (by omega)
    obtain ⟨v3, e3, t3⟩ := take_oneL (L := cs.toList) (k := 24) (by omega)
    rw [t1] at g1
    rw [t2] at g2
    rw [t3] at g3
    obtain ⟨z1, ez1, _⟩ := DataW.trod_bool Try.underlying4 g1
    injection ez1 with ez1 _
    obtain ⟨z2, ez2, _⟩ := DataW.trod_bool Try.underlying4 g2
    injection ez2 with ez2 _
    obtain ⟨z3, ez3, _, w3⟩ := DataW.trod_int Try.underlying23 g3
    injection ez3 with ez3 _
    have hb3 := bounds_u16 w3
    subst ez1 ez2 ez3
    obtain ⟨x, hx, hk⟩ := open_kc (by rw [List.length_take, List.length_drop]; omega) g0
    have hx2 : ((cs.toList.drop 0).take 22).toArray = x.cells := by injection hx
    refine ⟨⟨x, z1, z2, z3.toNat⟩, ?_, hk, by show z3.toNat < 65536; omega⟩
    unfold LM.val LM.cells
    rw [← hx2]
    show Value.agg cs = Value.agg (((cs.toList.drop 0).take 22).toArray ++ #[.bool z1, .bool z2, .int .u16 ((z3.toNat : Nat) : Int)])
    rw [show ((z3.toNat : Nat) : Int) = z3 by omega]
    have hsplit : cs.toList = cs.toList.take 22 ++ [Value.bool z1, Value.bool z2, .int .u16 z3] := by
      have h1 : cs.toList.drop 22 = [Value.bool z1, Value.bool z2, .int .u16 z3] := by
        have d1 := List.drop_eq_getElem_cons (show 22 < cs.toList.length by omega)
        have d2 := List.drop_eq_getElem_cons (show 23 < cs.toList.length by omega)
        have d3 := List.drop_eq_getElem_cons (show 24 < cs.toList.length by omega)
        rw [List.getElem?_eq_getElem (show 22 < cs.toList.length by omega)] at e1
        rw [List.getElem?_eq_getElem (show 23 < cs.toList.length by omega)] at e2
        rw [List.getElem?_eq_getElem (show 24 < cs.toList.length by omega)] at e3
        injection e1 with e1
        injection e2 with e2
        injection e3 with e3
        rw [d1, d2, d3, e1, e2, e3, List.drop_of_length_le (by omega)]
      rw [← h1, List.take_append_drop]
    refine congrArg Value.agg ?_
    have h2 : cs = (cs.toList.take 22 ++ [Value.bool z1, Value.bool z2, .int .u16 z3]).toArray := by rw [← hsplit]
    rw [List.drop_zero]
    conv => lhs; rw [h2]
    simp
end
theorem lm_rng (x : LM) {W : World} {g : Nat} {mk : Nat × Nat} (h : W.heap[g]? = some (.cells x.cells 63 mk)) : W.rangeAt g 0 x.k.cells.toList := fun j v hj => by
  have hlt : j < x.k.cells.size := by have := (List.getElem?_eq_some_iff.1 hj).1; simpa using this
  rw [Lib.cell_of_heap h (0 + j), ← hj, Nat.zero_add]
  unfold LM.cells
  rw [Array.getElem?_append_left hlt, Array.getElem?_toList]
theorem p16_cells (v : Nat) (hv : v < 65536) : (#[.int .u8 ((v : Int) / 256), .int .u8 ((v : Int) % 256)] : Array Value).toList = (p16 v).map bv := by
  simp only [p16, List.map_cons, List.map_nil, bv, UInt8.toNat_ofNat']
  have h4 : (v : Int) / 256 = ((v / 256 % 2 ^ 8 : Nat) : Int) := by omega
  have h5 : (v : Int) % 256 = ((v % 2 ^ 8 : Nat) : Int) := by omega
  rw [h4, h5]
def paR (ca has : Bool) (p : Nat) : List (List UInt8) := (if ca then [[1, 1, 255]] else []) ++ (if has then [wrQ 2 (putI (p16 p))] else [])
theorem paR_flat (ca has : Bool) (p : Nat) : (paR ca has p).flatten = paB ca has p := by
  unfold paR paB
  cases ca <;> cases has <;> simp
theorem paR_len1 (ca : Bool) (p : Nat) : (paR ca false p).length ≤ 1 := by
  unfold paR
  cases ca <;> simp
theorem paR_len (ca has : Bool) (p : Nat) : (paR ca has p).length ≤ 2 := by
  unfold paR
  cases ca <;> cases has <;> simp

set_option maxHeartbeats 32000000 in
theorem paths_row (x : LM) (w : World) (hx : IsLM w x) : Calls Try.prog 7 #[x.val] w fun e w' => e = .returned (.bool true) ∧ Below w.heap.size w w' := by
  obtain ⟨k, ca, told, p⟩ := x
  have HKC := Lib.hid hx.k
  have hp := hx.p
  have HP16 := Lib.hid (p16_cells p hx.p)
  simp only at hp
  clear hx
  unfold LM.val
  have HKC0 : Hid (IsKC w k) := HKC
  obtain ⟨CN, HCN⟩ : ∃ CN, Hid ((LM.mk k ca told p).cells = CN) := ⟨_, Lib.hid rfl⟩
  obtain ⟨CC, HCC⟩ : ∃ CC, Hid (k.cells = CC) := ⟨_, Lib.hid rfl⟩
  have ICC : Hid ((Try.prog.info? 28).map (·.size) = some CC.size) := by rw [← HCC.out]; exact Lib.hid (kc_info k)
  have ICL : Hid ((Try.prog.info? 28).map (·.size) = some CC.toList.length) := by rw [Array.length_toList]; exact ICC
  have HSZ : Hid (CC.size = 22) := by rw [← HCC.out]; exact Lib.hid (kc_size9 k)
  have HONE : Hid (CC.all (·.oneCell') = true) := by rw [← HCC.out]; unfold Hid KC.cells; simp [caseC, Value.oneCell']
  have RNG : Hid (∀ (W : World) (g : Nat) (mk : Nat × Nat), W.heap[g]? = some (.cells CN 63 mk) → W.rangeAt g 0 CC.toList) := Lib.hid (fun W g mk h => by rw [← HCN.out] at h; rw [← HCC.out]; exact lm_rng _ h)
  have N22 : Hid (CN[22]? = some (.bool ca)) := by rw [← HCN.out]; exact Lib.hid rfl
  have N23 : Hid (CN[23]? = some (.bool told)) := by rw [← HCN.out]; exact Lib.hid rfl
  have N24 : Hid (CN[24]? = some (.int .u16 (p : Int))) := by rw [← HCN.out]; exact Lib.hid rfl
  rw [HCN.out]
  go_enter Try.func7, Try.ntmps7
  go_upto_region 2 with (first | (refine wpList_load_mid rfl _ _ rfl w.heap.size 0 rfl CC.toList _ (RNG.out _ _ _ (has_new _ _)) Try.underlying28 rfl ICL.out ?_) | (refine wpList_store_row rfl _ _ _ rfl (w.heap.size + 1) CC rfl rfl _ _ (has_new' _ _ _ (by simp)) ICC.out (by rw [HSZ.out]; rfl) HONE.out ?_))
  refine wp_nm fun w0 hw0 => ?_
  have HB := Lib.hid (show Below w.heap.size w w0 by rw [← hw0]; exact below_setRow (kp_alloc (kp_alloc (Below.refl _ _) _) _) (by omega) _)
  have HK := Lib.hid (show w0.heap[w.heap.size + 1]? = some (.cells CC 28) by rw [← hw0]; exact setRow_heap _ _ _ _ _ _ (has_new' _ _ _ (by simp)))
  have HN := Lib.hid (show w0.heap[w.heap.size]? = some (.cells CN 63) by rw [← hw0, setRow_other _ _ _ _ (by omega)]; exact has_alloc (has_new _ _) _)
  clear hw0
  have c22 : w0.cell? ⟨w.heap.size, 22, none⟩ = some (.bool ca) := (Lib.cell_of_heap HN.out 22).trans N22.out
  have c23 : w0.cell? ⟨w.heap.size, 23, none⟩ = some (.bool told) := (Lib.cell_of_heap HN.out 23).trans N23.out
  have c24 : w0.cell? ⟨w.heap.size, 24, none⟩ = some (.int .u16 (p : Int)) := (Lib.cell_of_heap HN.out 24).trans N24.out
  go_upto_region 5 with (fail)
  clear c22 c23 c24 N22 N23 N24 HN RNG HCN ICL
  go_cut [7] from 15 (fun v7 wx => ∃ A7 n7 c7 l7, v7 = .slice A7 n7 c7 ∧ Hid (RowsO wx w.heap.size A7 n7 c7 l7) ∧ Hid (l7.map (·.2.2.2) = []) ∧ w0 = wx)
  case first => go_wp2; go_meet; exact ⟨none, 0, 0, [], rfl, Lib.hid (RowsO.nil _ _), Lib.hid rfl, rfl⟩
  obtain ⟨A7, n7, c7, l7, rfl, HR7, HL7, hwc⟩ := hcut
  subst hwc
  have hn7 : n7 = 0 := by have h1 := HR7.out.len; have h2 := congrArg List.length HL7.out; rw [List.length_map] at h2; simp only [List.length_nil] at h2; omega
  subst hn7
  go_upto_if 23 with (fail)
  go_cut [7] from 15 (fun v7 wx => ∃ A7 n7 c7 l7, v7 = .slice A7 n7 c7 ∧ Hid (RowsO wx w.heap.size A7 n7 c7 l7) ∧ Hid (l7.map (·.2.2.2) = paR ca false p) ∧ Hid (Below w.heap.size w wx) ∧ Hid (wx.heap[w.heap.size + 1]? = some (.cells CC 28)))
  case first =>
    as_aux_lemma =>
    cases ca with
    | false =>
      go_wp2
      go_meet
      exact ⟨A7, 0, c7, l7, rfl, HR7, Lib.hid HL7.out, HB, HK⟩
    | true =>
      go_wp2_with (at_builtin; refine wpList_ap1 _ _ rfl rfl rfl w.heap.size A7 0 c7 l7 rfl (HR7.out.below (kp_alloc (Below.refl _ _) _)) (some ⟨w0.heap.size, 0, none⟩, 3, 3, [1, 1, 255]) _ rfl (by rw [World.size_alloc]; rfl) ((own_lit w0 [1, 1, 255] 3 _ rfl rfl (by omega)).lower HB.out.size) (by omega) (by have := HB.out.size; simp; omega) ?_)
      intro A6 c6 w4 ho hg
      have hbl := ((kp_alloc (kp_alloc (Below.refl w0.heap.size w0) (.cells #[.int .u8 1, .int .u8 1, .int .u8 255] 5)) (.cells #[.slice (some ⟨w0.heap.size, 0, none⟩) 3 3] 22)))
      have HB4 := Lib.hid ((HB.out.trans (hbl.mono HB.out.size)).grown hg (by have := HB.out.size; simp; omega) (fun g hg => (HR7.out.own.blk_lt hg).1))
      have HK4 := Lib.hid (show w4.heap[w.heap.size + 1]? = some (.cells CC 28) from has_kindR ((HR7.out.below (kp_alloc (Below.refl _ _) _)).own.alloc _) (has_alloc (has_alloc HK.out _) _) hg (by decide))
      clear hg hbl
      go_wp2
      go_meet
      exact ⟨A6, 0 + 1, c6, _, rfl, Lib.hid ho, Lib.hid (by rw [List.map_append, HL7.out]; rfl), HB4, HK4⟩
  obtain ⟨A7, n7, c7, l7, rfl, HR7, HL7, HB, HK⟩ := hcut
  obtain ⟨w1, rfl⟩ : ∃ x, x = wc := ⟨_, rfl⟩
  have hn7 : n7 ≤ 1 := by
    have h1 := HR7.out.len
    have h2 := congrArg List.length HL7.out
    rw [List.length_map] at h2
    have := paR_len1 ca p
    omega
  go_upto_if 28 with (fail)
  go_cut [7] from 15 (fun v7 wx => ∃ A7 n7 c7 l7, v7 = .slice A7 n7 c7 ∧ Hid (RowsO wx w.heap.size A7 n7 c7 l7) ∧ Hid (l7.map (·.2.2.2) = paR ca told p) ∧ Hid (Below w.heap.size w wx) ∧ Hid (wx.heap[w.heap.size + 1]? = some (.cells CC 28)))
  case first =>
    as_aux_lemma =>
    cases told with
    | false =>
      go_wp2
      go_meet
      exact ⟨A7, n7, c7, l7, rfl, HR7, HL7, HB, HK⟩
    | true =>
      have hpl := pI_len p
      go_wp2_with fail
      refine calls_nm fun w2 hw2 => ?_
      have HL := Lib.hid (show RB w2 (some ⟨w1.heap.size, 0, none⟩) 2 (p16 p) by rw [← hw2]; exact (own_lit w1 (p16 p) 2 _ HP16.out rfl (by omega)).rb)
      have hb : Below w1.heap.size w1 w2 := by rw [← hw2]; exact kp_alloc (Below.refl _ _) _
      replace HR7 := Lib.hid (HR7.out.below hb)
      replace HB := Lib.hid (kp_call HB.out hb)
      replace HK := Lib.hid (has_below HK.out hb)
      clear hw2 hb
      refine (rputint_any _ 2 2 (p16 p) w2 HL.out (by omega) (by omega) (by omega)).mono ?_
      rintro e' w3 ⟨A5, n5, c5, rfl, ho, hb⟩
      have HO5 := Lib.hid ho.rb
      have hn5 := ho.len
      replace HR7 := Lib.hid (HR7.out.below hb)
      replace HB := Lib.hid (kp_call HB.out hb)
      replace HK := Lib.hid (has_below HK.out hb)
      clear ho hb HL
      go_wp2_with fail
      refine (rwrite_any 2 A5 n5 c5 _ w3 HO5.out (by omega)).mono ?_
      rintro e' w4 ⟨A6, n6, c6, rfl, ho, hb⟩
      have HO6 := Lib.hid (ho.lower (base' := w.heap.size) HB.out.size)
      replace HR7 := Lib.hid (HR7.out.below hb)
      replace HB := Lib.hid (kp_call HB.out hb)
      replace HK := Lib.hid (has_below HK.out hb)
      clear ho hb HO5 hn5
      go_wp2_with (at_builtin; refine wpList_ap1 _ _ rfl rfl rfl w.heap.size A7 n7 c7 l7 rfl HR7.out (A6, n6, c6, wrQ 2 (putI (p16 p))) _ rfl rfl HO6.out (by omega) HB.out.size ?_)
      intro A8 c8 w5 ho hg
      have HB4 := Lib.hid ((kp_alloc HB.out _).grown hg (by have := HB.out.size; simp; omega) (fun g hg => (HR7.out.own.blk_lt hg).1))
      have HK4 := Lib.hid (show w5.heap[w.heap.size + 1]? = some (.cells CC 28) from has_kindR (HR7.out.own.alloc _) (has_alloc HK.out _) hg (by decide))
      clear hg
      go_wp2
      go_meet
      exact ⟨A8, n7 + 1, c8, _, rfl, Lib.hid ho, Lib.hid (by rw [List.map_append, HL7.out]; unfold paR; simp), HB4, HK4⟩
  obtain ⟨A7, n7, c7, l7, rfl, HR7, HL7, HB, HK⟩ := hcut
  obtain ⟨w2, rfl⟩ : ∃ x, x = wc := ⟨_, rfl⟩
  have hn7 : n7 ≤ 2 := by
    have h1 := HR7.out.len
    have h2 := congrArg List.length HL7.out
    rw [List.length_map] at h2
    have := paR_len ca told p
    omega
  have hpb := paB_len ca told p
  have hwb := wrQ_len 48 (paB ca told p) (by omega)
  go_wp2_with fail
  refine (seq_any A7 n7 c7 l7 w2 HR7.out.rows HR7.out.len (by omega) (by rw [flat_map, HL7.out, paR_flat]; omega)).mono ?_
  rintro e' w3 ⟨A8, n8, c8, rfl, ho, hb⟩
  rw [flat_map, HL7.out, paR_flat] at ho
  have HO8 := Lib.hid (ho.lower (base' := w.heap.size) HB.out.size)
  have hn8 := ho.len
  replace HB := Lib.hid (kp_call HB.out hb)
  replace HK := Lib.hid (has_below HK.out hb)
  clear ho hb HR7 HL7 hn7
  have h98 := Lib.hid (show blk A8 ≠ some w3.heap.size from fun e => by have := (HO8.out.blk_lt e).2; omega)
  go_upto_region 12 with (fail)
  refine wp_nm fun w4 hw4 => ?_
  have HO9 := Lib.hid (show OwnB w4 w.heap.size (some ⟨w3.heap.size, 0, none⟩) 3 3 o19 by rw [← hw4]; exact (own_lit w3 o19 3 _ rfl rfl (by omega)).lower HB.out.size)
  have hb : Below w3.heap.size w3 w4 := by rw [← hw4]; exact kp_alloc (Below.refl _ _) _
  replace HB := Lib.hid (kp_call HB.out hb)
  replace HK := Lib.hid (has_below HK.out hb)
  replace HO8 := Lib.hid (HO8.out.below hb (Nat.le_refl _))
  obtain ⟨g9, hg9⟩ : ∃ g, g = w3.heap.size := ⟨_, rfl⟩
  rw [← hg9] at HO9 h98 ⊢
  have HB4 := Lib.hid HB.out.size
  clear hw4 hb hg9
  have F1 : ∀ b, b.length ≤ 100 → ∀ x ∈ [((o19, true, b) : Ex)], ExFit x := fun b hb x hx => by rw [List.mem_singleton] at hx; subst hx; exact ⟨by simp only; decide, by simp only; omega⟩
  have L0 : ∀ b, b.length ≤ 100 → (exsF [((o19, true, b) : Ex)]).length ≤ 6200 := fun b hb => by
    have h1 := exsF_one (o19, true, b)
    have h2 := exB_len (o19, true, b) (by simp only; decide) (by simp only; omega)
    have h3 : o19.length = 3 := rfl
    simp only at h2
    omega
  have L1 := Lib.hid (L0 (wrQ 48 (paB ca told p)) (by omega))
  have L2 := Lib.hid (L0 (wrQ 48 (paB ca told p) ++ [5, 0]) (by rw [List.length_append]; simp only [List.length_cons, List.length_nil]; omega))
  have HF1 := Lib.hid (F1 (wrQ 48 (paB ca told p)) (by omega))
  have HX1 := Lib.hid (pa_one ca told p hp true)
  have HE2 := Lib.hid (xC_no (k := k) (F1 (wrQ 48 (paB ca told p) ++ [5, 0]) (by rw [List.length_append]; simp only [List.length_cons, List.length_nil]; omega)) L2.out (pa_more ca told p true))
  clear F1 L0
  have hPC : paB ca told p = paB ca told p := rfl
  generalize hPB : paB ca told p = PB at *
  clear hPB hPC
  refine wp_region_monoS (by kernel_rfl) (by kernel_rfl) [44, 45, 46, 47, 48, 49, 50, 43, 51, 52, 10] (by rfl) (by rfl) (by decide) (by rfl) (fun j => ([MR.eq (.agg CC), MR.eq (.slice (some ⟨g9, 0, none⟩) 3 3), MR.eq (.slice A8 n8 c8), MR.own (w.heap.size) (exB (o19, true, wrQ 48 PB)), MR.rows [exB (o19, true, wrQ 48 PB)], MR.own (w.heap.size) (xC k [(o19, true, wrQ 48 PB)]), MR.par (w.heap.size) (xC k [(o19, true, wrQ 48 PB)]), MR.par (w.heap.size) (xC k [(o19, true, wrQ 48 PB)]), MR.par0 (w.heap.size) (xC k [(o19, true, wrQ 48 PB)]), MR.eq (.int .i64 (erQ (xC k [(o19, true, wrQ 48 PB)]) : Int)), MR.fresh0 (w4.heap.size)] : List MR).getD j MR.any) [] [[], [], [], [1, 2], [1, 2, 3], [0, 1, 2, 3, 4], [0, 1, 2, 3, 4, 5], [0, 1, 2, 3, 4, 5, 6], [0, 1, 2, 3, 4, 5, 6, 7], [0, 1, 2, 3, 4, 5, 6, 7], [], [0, 1, 2, 3, 4, 5, 6, 7, 8, 10], [0, 1, 2, 3, 4, 5, 6, 7, 8, 9, 10, 11]] (by kernel_rfl) (by kernel_rfl) 9 (by decide) (by kernel_rfl) (by kernel_rfl) _ (by rfl) _ 10 51 (by rfl) (by rfl) (by rfl) (by decide) (by decide) _ (by rfl) (by rfl) ?_ (by rfl) ?_ ?_
  · intro ρ W E
    obtain ⟨D43, e43, P43⟩ : (MR.par (w.heap.size) (xC k [(o19, true, wrQ 48 PB)])).p (ρ (.tmp 43)) W := E.dep 7 (by kernel_rfl)
    exact ⟨_, pure_extract rfl e43 (fun _ => by kernel_rfl), rfl⟩
  · intro i hi ρ W E
    simp only [List.length_cons, List.length_nil] at hi
    have hbW : w.heap.size ≤ W.heap.size := Nat.le_trans HB.out.size E.up.size
    rcases (show i = 0 ∨ i = 1 ∨ i = 2 ∨ i = 3 ∨ i = 4 ∨ i = 5 ∨ i = 6 ∨ i = 7 ∨ i = 8 ∨ i = 9 ∨ i = 10 by omega) with rfl | rfl | rfl | rfl | rfl | rfl | rfl | rfl | rfl | rfl | rfl
    · -- 0: load 28 t3
      refine mono_at (by rfl) rfl ?_
      have e3 : ρ (.tmp 3) = .pointer (some ⟨(w.heap.size + 1), 0, none⟩) := E.old 3 rfl
      exact mo_loadr rfl e3 (has_below HK.out E.up) Try.underlying28 rfl ICC.out ⟨Below.refl _ _, rfl⟩
    · -- 1: move t9
      refine mono_at (by rfl) rfl ?_
      have e9 : ρ (.tmp 9) = .slice (some ⟨g9, 0, none⟩) 3 3 := E.old 9 rfl
      exact mo_move rfl ⟨Below.refl _ _, e9⟩
    · -- 2: move t8
      refine mono_at (by rfl) rfl ?_
      have e8 : ρ (.tmp 8) = .slice A8 n8 c8 := E.old 8 rfl
      exact mo_move rfl ⟨Below.refl _ _, e8⟩
    · -- 3: call { value (Operand.func 25), args := #[t45, const (Value.
      refine mono_at (by rfl) rfl ?_
      have e45 : ρ (.tmp 45) = .slice (some ⟨g9, 0, none⟩) 3 3 := E.dep 1 (by kernel_rfl)
      have e46 : ρ (.tmp 46) = .slice A8 n8 c8 := E.dep 2 (by kernel_rfl)
      refine mo_call rfl (E.fn _) (fun _ _ => by kernel_rfl) (args := #[.slice (some ⟨g9, 0, none⟩) 3 3, Value.bool true, .slice A8 n8 c8]) (by simp only [List.map_toArray, List.map_cons, List.map_nil, List.length_cons, List.length_nil, Nat.reduceAdd, E.cst, e45, e46]) ?_
      exact extM true (HO9.out.rb.below E.up) (HO8.out.rb.below E.up) (by omega) (by omega) hbW
    · -- 4: buildSlice 56 1 #[(0, t47)]
      refine mono_at (by rfl) rfl ?_
      obtain ⟨A47, n47, c47, e47, o47⟩ : (MR.own (w.heap.size) (exB (o19, true, wrQ 48 PB))).p (ρ (.tmp 47)) W := E.dep 3 (by kernel_rfl)
      exact mo_rows [(A47, n47, c47, exB (o19, true, wrQ 48 PB))] 1 rfl (vs := [(0, .slice A47 n47 c47)]) (by simp only [List.map_toArray, List.map_cons, List.map_nil, E.cst, e47]) (by kernel_rfl) rfl (by omega) (by omega) (all1R o47.rb all0R)
    · -- 5: call { value (Operand.func 24), args := #[t44, t48], argType
      refine mono_at (by rfl) rfl ?_
      have e44 : ρ (.tmp 44) = .agg CC := E.dep 0 (by kernel_rfl)
      obtain ⟨A48, l48, e48, r48, m48⟩ : (MR.rows [exB (o19, true, wrQ 48 PB)]).p (ρ (.tmp 48)) W := E.dep 4 (by kernel_rfl)
      refine mo_call rfl (E.fn _) (fun _ _ => by kernel_rfl) (args := #[.agg CC, .slice A48 1 1]) (by simp only [List.map_toArray, List.map_cons, List.map_nil, List.length_cons, List.length_nil, Nat.reduceAdd, E.cst, e44, e48]) ?_
      rw [← HCC.out]
      exact withM HKC.out (HB.out.trans (E.up.mono HB.out.size)) [(o19, true, wrQ 48 PB)] r48 m48 rfl (by omega) (Nat.le_trans L1.out (by omega)) hbW
    · -- 6: call { value (Operand.func 15), args := #[t49], argTypes := 
      refine mono_at (by rfl) rfl ?_
      obtain ⟨A49, n49, c49, e49, o49⟩ : (MR.own (w.heap.size) (xC k [(o19, true, wrQ 48 PB)])).p (ρ (.tmp 49)) W := E.dep 5 (by kernel_rfl)
      refine mo_call rfl (E.fn _) (fun _ _ => by kernel_rfl) (args := #[.slice A49 n49 c49]) (by simp only [List.map_toArray, List.map_cons, List.map_nil, List.length_cons, List.length_nil, Nat.reduceAdd, E.cst, e49]) ?_
      exact parM o49.rb o49.cap.1 o49.cap.2 (Nat.le_trans (xC_len k [(o19, true, wrQ 48 PB)] L1.out) (by omega)) hbW
    · -- 7: move t50
      refine mono_at (by rfl) rfl ?_
      obtain ⟨D50, e50, P50⟩ : (MR.par (w.heap.size) (xC k [(o19, true, wrQ 48 PB)])).p (ρ (.tmp 50)) W := E.dep 6 (by kernel_rfl)
      exact mo_move rfl ⟨Below.refl _ _, E.dep 6 (by kernel_rfl)⟩
    · -- 8: extract t43 0
      refine mono_at (by rfl) rfl ?_
      obtain ⟨D43, e43, P43⟩ : (MR.par (w.heap.size) (xC k [(o19, true, wrQ 48 PB)])).p (ρ (.tmp 43)) W := E.dep 7 (by kernel_rfl)
      exact mo_extract rfl e43 (by kernel_rfl) ⟨Below.refl _ _, _, rfl, P43⟩
    · -- 9: extract t43 1
      refine mono_at (by rfl) rfl ?_
      obtain ⟨D43, e43, P43⟩ : (MR.par (w.heap.size) (xC k [(o19, true, wrQ 48 PB)])).p (ρ (.tmp 43)) W := E.dep 7 (by kernel_rfl)
      exact mo_extract rfl e43 (by kernel_rfl) ⟨Below.refl _ _, rfl⟩
    · -- 10: alloc 33
      refine mono_at (by rfl) rfl ?_
      exact mo_alloc rfl run_alloc0 ⟨kp_alloc (Below.refl _ _) _, _, rfl, E.up.size, has_new _ _⟩
  · intro u W hbU hR
    obtain ⟨Du51, eu51, Pu51⟩ : (MR.par0 (w.heap.size) (xC k [(o19, true, wrQ 48 PB)])).p (u 8) W := hR 8 (by decide)
    have hu52 : u 9 = .int .i64 (erQ (xC k [(o19, true, wrQ 48 PB)]) : Int) := hR 9 (by decide)
    obtain ⟨gu10, eu10, Lu10, Zu10⟩ : (MR.fresh0 (w4.heap.size)).p (u 10) W := hR 10 (by decide)
    clear hR
    simp only [lay, Nat.reduceAdd, List.setIfInBounds_toArray, List.set_cons_zero, List.set_cons_succ]
    refine ⟨_, (by show (Instr.storeAt _ (u 10) (u 8)).run _ W = _; rw [eu10, eu51]; exact run_storeAt_row9 W gu10 _ _ _ Du51 Zu10 (info24 Pu51.size.1) (by rw [Pu51.size.1]; rfl) Pu51.size.2), wpOp_val (v := u 9) (by rfl) rfl (by rfl) ?_⟩
    dsimp only [Act.put]
    simp only [List.setIfInBounds_toArray, List.set_cons_zero, List.set_cons_succ, eu51, hu52, eu10]
    clear eu51 hu52 eu10
    have HZ := Lib.hid Zu10
    have hgL := Lu10
    have HP0 := Lib.hid Pu51
    have ID0 := Lib.hid (info24 Pu51.size.1)
    clear Zu10 Pu51
    go_upto_region 13 with (fail)
    refine wp_nm fun w5 hww5 => ?_
    have HG : Hid (W.grownBy w5 (some gu10)) := by rw [← hww5]; exact Lib.hid (grown_row ..)
    have HD1 := Lib.hid (show w5.heap[gu10]? = some (.cells Du51 33) by rw [← hww5]; exact setRow_heap _ _ _ _ _ _ HZ.out)
    have hbn : Below w4.heap.size w4 w5 := hbU.grown HG.out hbU.size (fun k hk => by injection hk with hk; omega)
    have HP1 := Lib.hid (HP0.out.keptC HG.out HZ.out)
    replace HB := Lib.hid (kp_call HB.out hbn)
    replace HK := Lib.hid (has_below HK.out hbn)
    replace HO8 := Lib.hid (HO8.out.below hbn (Nat.le_refl _))
    replace HO9 := Lib.hid (HO9.out.below hbn (Nat.le_refl _))
    obtain ⟨G1, rfl⟩ : ∃ x, x = gu10 := ⟨_, rfl⟩
    obtain ⟨D1, rfl⟩ : ∃ x, x = Du51 := ⟨_, rfl⟩
    have ID1 := ID0
    have G1L := Lib.hid hgL
    clear hww5 HG HZ HP0 hbU hgL Lu10 ID0 hbn
    have HV : Hid (∀ c, exsV [(o19, true, wrQ 48 PB)] = some c → D1[20]? = some (.bool c.ca) ∧ D1[21]? = some (.int .i64 c.path)) := Lib.hid (fun c hc => by
      obtain ⟨_, _, _, _, _, _, _, hD, _⟩ := HP1.out.ceX HF1.out L1.out c hc
      rw [hD]
      exact ⟨rfl, rfl⟩)
    clear HP1
    go_wp2_with (at_builtin; refine wpList_apn _ _ rfl rfl rfl w.heap.size A8 n8 c8 _ rfl (OwnB.below HO8.out (kp_alloc (Below.refl _ _) _) (Nat.le_refl _)) (some ⟨w5.heap.size, 0, none⟩) 2 2 [5, 0] rfl (own_lit w5 [5, 0] 2 _ rfl rfl (by omega)).rb (by omega) (by have := HB.out.size; simp; omega) ?_)
    intro AB cB w6 ho hg
    have hal := kp_alloc (Below.refl w5.heap.size w5) (.cells #[.int .u8 5, .int .u8 0] 5)
    have h8k := OwnB.below HO8.out hal (Nat.le_refl _)
    have h9k := OwnB.below HO9.out hal (Nat.le_refl _)
    have HOB := Lib.hid ho
    replace HK := Lib.hid (has_kindR (OwnB.row h8k) (has_alloc HK.out _) hg (by decide))
    replace HD1 := Lib.hid (has_kindR (OwnB.row h8k) (has_alloc HD1.out _) hg (by decide))
    replace HO9 := Lib.hid (OwnB.kept h9k hg (.inr (fun e => h98.out e.symm)))
    replace HB := Lib.hid ((kp_alloc HB.out _).grown hg (by have := HB.out.size; simp; omega) (fun g hg => (HO8.out.blk_lt hg).1))
    clear ho hg hal h9k h8k h98 HO8
    go_upto_region 14 with (fail)
    refine wp_region_monoS (by kernel_rfl) (by kernel_rfl) [57, 58, 59, 60, 61, 62, 63, 56, 64, 65, 12] (by rfl) (by rfl) (by decide) (by rfl) (fun j => ([MR.eq (.agg CC), MR.eq (.slice (some ⟨g9, 0, none⟩) 3 3), MR.eq (.slice AB (n8 + 2) cB), MR.own (w.heap.size) (exB (o19, true, wrQ 48 PB ++ [5, 0])), MR.rows [exB (o19, true, wrQ 48 PB ++ [5, 0])], MR.own (w.heap.size) (xC k [(o19, true, wrQ 48 PB ++ [5, 0])]), MR.par (w.heap.size) (xC k [(o19, true, wrQ 48 PB ++ [5, 0])]), MR.par (w.heap.size) (xC k [(o19, true, wrQ 48 PB ++ [5, 0])]), MR.par0 (w.heap.size) (xC k [(o19, true, wrQ 48 PB ++ [5, 0])]), MR.eq (.int .i64 (erQ (xC k [(o19, true, wrQ 48 PB ++ [5, 0])]) : Int)), MR.fresh0 (w6.heap.size)] : List MR).getD j MR.any) [] [[], [], [], [1, 2], [1, 2, 3], [0, 1, 2, 3, 4], [0, 1, 2, 3, 4, 5], [0, 1, 2, 3, 4, 5, 6], [0, 1, 2, 3, 4, 5, 6, 7], [0, 1, 2, 3, 4, 5, 6, 7], [], [0, 1, 2, 3, 4, 5, 6, 7, 8, 10], [0, 1, 2, 3, 4, 5, 6, 7, 8, 9, 10, 11]] (by kernel_rfl) (by kernel_rfl) 9 (by decide) (by kernel_rfl) (by kernel_rfl) _ (by rfl) _ 12 64 (by rfl) (by rfl) (by rfl) (by decide) (by decide) _ (by rfl) (by rfl) ?_ (by rfl) ?_ ?_
    · intro ρ W E
      obtain ⟨D56, e56, P56⟩ : (MR.par (w.heap.size) (xC k [(o19, true, wrQ 48 PB ++ [5, 0])])).p (ρ (.tmp 56)) W := E.dep 7 (by kernel_rfl)
      exact ⟨_, pure_extract rfl e56 (fun _ => by kernel_rfl), rfl⟩
    · intro i hi ρ W E
      simp only [List.length_cons, List.length_nil] at hi
      have hbW : w.heap.size ≤ W.heap.size := Nat.le_trans HB.out.size E.up.size
      rcases (show i = 0 ∨ i = 1 ∨ i = 2 ∨ i = 3 ∨ i = 4 ∨ i = 5 ∨ i = 6 ∨ i = 7 ∨ i = 8 ∨ i = 9 ∨ i = 10 by omega) with rfl | rfl | rfl | rfl | rfl | rfl | rfl | rfl | rfl | rfl | rfl
      · -- 0: load 28 t3
        refine mono_at (by rfl) rfl ?_
        have e3 : ρ (.tmp 3) = .pointer (some ⟨(w.heap.size + 1), 0, none⟩) := E.old 3 rfl
        exact mo_loadr rfl e3 (has_below HK.out E.up) Try.underlying28 rfl ICC.out ⟨Below.refl _ _, rfl⟩
      · -- 1: move t9
        refine mono_at (by rfl) rfl ?_
        have e9 : ρ (.tmp 9) = .slice (some ⟨g9, 0, none⟩) 3 3 := E.old 9 rfl
        exact mo_move rfl ⟨Below.refl _ _, e9⟩
      · -- 2: move t8
        refine mono_at (by rfl) rfl ?_
        have e8 : ρ (.tmp 8) = .slice AB (n8 + 2) cB := E.old 8 rfl
        exact mo_move rfl ⟨Below.refl _ _, e8⟩
      · -- 3: call { value (Operand.func 25), args := #[t58, const (Value.
        refine mono_at (by rfl) rfl ?_
        have e58 : ρ (.tmp 58) = .slice (some ⟨g9, 0, none⟩) 3 3 := E.dep 1 (by kernel_rfl)
        have e59 : ρ (.tmp 59) = .slice AB (n8 + 2) cB := E.dep 2 (by kernel_rfl)
        refine mo_call rfl (E.fn _) (fun _ _ => by kernel_rfl) (args := #[.slice (some ⟨g9, 0, none⟩) 3 3, Value.bool true, .slice AB (n8 + 2) cB]) (by simp only [List.map_toArray, List.map_cons, List.map_nil, List.length_cons, List.length_nil, Nat.reduceAdd, E.cst, e58, e59]) ?_
        exact extM true (HO9.out.rb.below E.up) (HOB.out.rb.below E.up) (by omega) (by omega) hbW
      · -- 4: buildSlice 56 1 #[(0, t60)]
        refine mono_at (by rfl) rfl ?_
        obtain ⟨A60, n60, c60, e60, o60⟩ : (MR.own (w.heap.size) (exB (o19, true, wrQ 48 PB ++ [5, 0]))).p (ρ (.tmp 60)) W := E.dep 3 (by kernel_rfl)
        exact mo_rows [(A60, n60, c60, exB (o19, true, wrQ 48 PB ++ [5, 0]))] 1 rfl (vs := [(0, .slice A60 n60 c60)]) (by simp only [List.map_toArray, List.map_cons, List.map_nil, E.cst, e60]) (by kernel_rfl) rfl (by omega) (by omega) (all1R o60.rb all0R)
      · -- 5: call { value (Operand.func 24), args := #[t57, t61], argType
        refine mono_at (by rfl) rfl ?_
        have e57 : ρ (.tmp 57) = .agg CC := E.dep 0 (by kernel_rfl)
        obtain ⟨A61, l61, e61, r61, m61⟩ : (MR.rows [exB (o19, true, wrQ 48 PB ++ [5, 0])]).p (ρ (.tmp 61)) W := E.dep 4 (by kernel_rfl)
        refine mo_call rfl (E.fn _) (fun _ _ => by kernel_rfl) (args := #[.agg CC, .slice A61 1 1]) (by simp only [List.map_toArray, List.map_cons, List.map_nil, List.length_cons, List.length_nil, Nat.reduceAdd, E.cst, e57, e61]) ?_
        rw [← HCC.out]
        exact withM HKC.out (HB.out.trans (E.up.mono HB.out.size)) [(o19, true, wrQ 48 PB ++ [5, 0])] r61 m61 rfl (by omega) (Nat.le_trans L2.out (by omega)) hbW
      · -- 6: call { value (Operand.func 15), args := #[t62], argTypes := 
        refine mono_at (by rfl) rfl ?_
        obtain ⟨A62, n62, c62, e62, o62⟩ : (MR.own (w.heap.size) (xC k [(o19, true, wrQ 48 PB ++ [5, 0])])).p (ρ (.tmp 62)) W := E.dep 5 (by kernel_rfl)
        refine mo_call rfl (E.fn _) (fun _ _ => by kernel_rfl) (args := #[.slice A62 n62 c62]) (by simp only [List.map_toArray, List.map_cons, List.map_nil, List.length_cons, List.length_nil, Nat.reduceAdd, E.cst, e62]) ?_
        exact parM o62.rb o62.cap.1 o62.cap.2 (Nat.le_trans (xC_len k [(o19, true, wrQ 48 PB ++ [5, 0])] L2.out) (by omega)) hbW
      · -- 7: move t63
        refine mono_at (by rfl) rfl ?_
        obtain ⟨D63, e63, P63⟩ : (MR.par (w.heap.size) (xC k [(o19, true, wrQ 48 PB ++ [5, 0])])).p (ρ (.tmp 63)) W := E.dep 6 (by kernel_rfl)
        exact mo_move rfl ⟨Below.refl _ _, E.dep 6 (by kernel_rfl)⟩
      · -- 8: extract t56 0
        refine mono_at (by rfl) rfl ?_
        obtain ⟨D56, e56, P56⟩ : (MR.par (w.heap.size) (xC k [(o19, true, wrQ 48 PB ++ [5, 0])])).p (ρ (.tmp 56)) W := E.dep 7 (by kernel_rfl)
        exact mo_extract rfl e56 (by kernel_rfl) ⟨Below.refl _ _, _, rfl, P56⟩
      · -- 9: extract t56 1
        refine mono_at (by rfl) rfl ?_
        obtain ⟨D56, e56, P56⟩ : (MR.par (w.heap.size) (xC k [(o19, true, wrQ 48 PB ++ [5, 0])])).p (ρ (.tmp 56)) W := E.dep 7 (by kernel_rfl)
        exact mo_extract rfl e56 (by kernel_rfl) ⟨Below.refl _ _, rfl⟩
      · -- 10: alloc 33
        refine mono_at (by rfl) rfl ?_
        exact mo_alloc rfl run_alloc0 ⟨kp_alloc (Below.refl _ _) _, _, rfl, E.up.size, has_new _ _⟩
    · intro u W hbU hR
      obtain ⟨Du64, eu64, Pu64⟩ : (MR.par0 (w.heap.size) (xC k [(o19, true, wrQ 48 PB ++ [5, 0])])).p (u 8) W := hR 8 (by decide)
      have hu65 : u 9 = .int .i64 (erQ (xC k [(o19, true, wrQ 48 PB ++ [5, 0])]) : Int) := hR 9 (by decide)
      obtain ⟨gu12, eu12, Lu12, Zu12⟩ : (MR.fresh0 (w6.heap.size)).p (u 10) W := hR 10 (by decide)
      clear hR
      simp only [lay, Nat.reduceAdd, List.setIfInBounds_toArray, List.set_cons_zero, List.set_cons_succ]
      refine ⟨_, (by show (Instr.storeAt _ (u 10) (u 8)).run _ W = _; rw [eu12, eu64]; exact run_storeAt_row9 W gu12 _ _ _ Du64 Zu12 (info24 Pu64.size.1) (by rw [Pu64.size.1]; rfl) Pu64.size.2), wpOp_val (v := u 9) (by rfl) rfl (by rfl) ?_⟩
      dsimp only [Act.put]
      simp only [List.setIfInBounds_toArray, List.set_cons_zero, List.set_cons_succ, eu64, hu65, eu12]
      clear eu64 hu65 eu12
      have HZ := Lib.hid Zu12
      have hgL := Lu12
      have HP0 := Lib.hid Pu64
      have ID0 := Lib.hid (info24 Pu64.size.1)
      clear Zu12 Pu64
      go_upto_region 15 with (fail)
      refine wp_nm fun w7 hww7 => ?_
      have HG : Hid (W.grownBy w7 (some gu12)) := by rw [← hww7]; exact Lib.hid (grown_row ..)
      have HD2 := Lib.hid (show w7.heap[gu12]? = some (.cells Du64 33) by rw [← hww7]; exact setRow_heap _ _ _ _ _ _ HZ.out)
      have hbn : Below w6.heap.size w6 w7 := hbU.grown HG.out hbU.size (fun k hk => by injection hk with hk; omega)
      have HP2 := Lib.hid (HP0.out.keptC HG.out HZ.out)
      replace HB := Lib.hid (kp_call HB.out hbn)
      replace HK := Lib.hid (has_below HK.out hbn)
      replace HD1 := Lib.hid (has_below HD1.out hbn)
      replace HO9 := Lib.hid (HO9.out.below hbn (Nat.le_refl _))
      replace HOB := Lib.hid (HOB.out.below hbn (Nat.le_refl _))
      obtain ⟨G2, rfl⟩ : ∃ x, x = gu12 := ⟨_, rfl⟩
      obtain ⟨D2, rfl⟩ : ∃ x, x = Du64 := ⟨_, rfl⟩
      have ID2 := ID0
      have G2L := Lib.hid hgL
      clear hww7 HG HZ HP0 hbU hgL Lu12 ID0 hbn
      clear HP2 HD2
      rw [HE2.out]
      clear HE2 HO9 HOB HK L2 ID1 ID2 HP16 HB4
      cases told with
      | false =>
        cases ca with
        | false =>
          have hv : exsV [(o19, true, wrQ 48 PB)] = some { xt0 with ca := false, path := -1 } := by rw [HX1.out]; rfl
          have HC := Lib.hid (xC_er (k := k) HF1.out L1.out hv)
          obtain ⟨v20, v21⟩ := HV.out _ hv
          have c20 := (Lib.cell_of_heap HD1.out 20).trans v20
          have c21 := (Lib.cell_of_heap HD1.out 21).trans v21
          simp only at c20 c21
          rw [HC.out]
          clear v20 v21
          clear hv HC HV HX1
          go_wp2_with fail
          refine (works12_any _).mono ?_
          rintro e w' ⟨rfl, hb⟩
          have HBE := Lib.hid (kp_call HB.out hb)
          clear hb
          go_wp2
          go_ret
          exact ⟨rfl, HBE.out⟩
        | true =>
          have hv : exsV [(o19, true, wrQ 48 PB)] = some { xt0 with ca := true, path := -1 } := by rw [HX1.out]; rfl
          have HC := Lib.hid (xC_er (k := k) HF1.out L1.out hv)
          obtain ⟨v20, v21⟩ := HV.out _ hv
          have c20 := (Lib.cell_of_heap HD1.out 20).trans v20
          have c21 := (Lib.cell_of_heap HD1.out 21).trans v21
          simp only at c20 c21
          rw [HC.out]
          clear v20 v21
          clear hv HC HV HX1
          go_wp2_with fail
          refine (works12_any _).mono ?_
          rintro e w' ⟨rfl, hb⟩
          have HBE := Lib.hid (kp_call HB.out hb)
          clear hb
          go_wp2
          go_ret
          exact ⟨rfl, HBE.out⟩
      | true =>
        cases ca with
        | false =>
          have hv : exsV [(o19, true, wrQ 48 PB)] = none := by rw [HX1.out]; rfl
          have HC := Lib.hid (xC_no (k := k) HF1.out L1.out hv)
          rw [HC.out]
          clear hv HC HV HX1
          go_wp2_with fail
          refine (works12_any _).mono ?_
          rintro e w' ⟨rfl, hb⟩
          have HBE := Lib.hid (kp_call HB.out hb)
          clear hb
          go_wp2
          go_ret
          exact ⟨rfl, HBE.out⟩
        | true =>
          obtain h255 | h255 : 255 < p ∨ p ≤ 255 := by omega
          ·
            have hv : exsV [(o19, true, wrQ 48 PB)] = none := by rw [HX1.out]; unfold paV; rw [if_pos ⟨rfl, .inr h255⟩]; rfl
            have HC := Lib.hid (xC_no (k := k) HF1.out L1.out hv)
            rw [HC.out]
            clear hv HC HV HX1
            have q1 : decide ((255 : Int) < (p : Int)) = true := decide_eq_true (by omega)
            have q2 : decide (255 < p) = true := decide_eq_true h255
            go_wp2_with fail
            refine (works12_any _).mono ?_
            rintro e w' ⟨rfl, hb⟩
            have HBE := Lib.hid (kp_call HB.out hb)
            clear hb
            go_wp2
            go_ret
            exact ⟨rfl, HBE.out⟩
          ·
            have hv : exsV [(o19, true, wrQ 48 PB)] = some { xt0 with ca := true, path := (p : Int) } := by rw [HX1.out]; unfold paV; rw [if_neg (by rintro ⟨_, h | h⟩; cases h; omega)]; rfl
            have HC := Lib.hid (xC_er (k := k) HF1.out L1.out hv)
            obtain ⟨v20, v21⟩ := HV.out _ hv
            have c20 := (Lib.cell_of_heap HD1.out 20).trans v20
            have c21 := (Lib.cell_of_heap HD1.out 21).trans v21
            simp only at c20 c21
            rw [HC.out]
            clear v20 v21
            clear hv HC HV HX1
            have q1 : decide ((255 : Int) < (p : Int)) = false := decide_eq_false (by omega)
            have q2 : decide (255 < p) = false := decide_eq_false (by omega)
            go_wp2_with fail
            refine (works12_any _).mono ?_
            rintro e w' ⟨rfl, hb⟩
            have HBE := Lib.hid (kp_call HB.out hb)
            clear hb
            go_wp2
            go_ret
            exact ⟨rfl, HBE.out⟩

end Go.Proofs.Ytomolfdcdmncoaa
