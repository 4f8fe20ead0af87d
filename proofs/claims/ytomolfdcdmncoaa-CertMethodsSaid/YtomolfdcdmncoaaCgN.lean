/-
  cert: the statement on methods.
-/
import Derived.Test.YtomolfdcdmncoaaCgH
import Derived.Test.YtomolfdcdmncoaaCgA
namespace Go.Proofs.Ytomolfdcdmncoaa
open Go.RowKit Go
set_option linter.unusedVariables false
set_option linter.unusedSimpArgs false
set_option maxRecDepth 100000

theorem run_eqstr (a b : ByteArray) {W : World} : (binOp BinOp.eql 9 (.string a) (.string b)).run Try.prog W = .ok (.bool (a.toList == b.toList)) W := by
  simp [binOp, go_sem, Sem.run_bind, Op.stringOp]
theorem row_cellX {w : World} {base n c g : Nat} {l : List Row1} (h : RowsO w base (some ⟨g, 0, none⟩) n c l) (j : Nat) (hj : j < l.length) : w.cell? ⟨g, j, none⟩ = some (Row1.val (l.getD j Row1.nul)) := by
  obtain ⟨b, off, h1, _, hc⟩ := h.own.reads (by intro h9; have h8 := congrArg List.length h9; rw [List.length_map] at h8; simp only [List.length_nil] at h8; omega)
  cases h1
  have h2 := hc j (Row1.val (l.getD j Row1.nul)) (by rw [List.getElem?_map, List.getD_eq_getElem?_getD, List.getElem?_eq_getElem hj]; rfl)
  rwa [Nat.zero_add] at h2
theorem bstr_eq (a b : List UInt8) : ((⟨a.toArray⟩ : ByteArray).toList == (⟨b.toArray⟩ : ByteArray).toList) = decide (a = b) := by
  show ((strOf a).toList == (strOf b).toList) = _
  rw [strOf_toList, strOf_toList]
  by_cases h : a = b
  · subst h; simp
  · rw [decide_eq_false h]
    exact beq_eq_false_iff_ne.2 h
theorem L2_sgn (k : KC) : k.L.getD 2 [] = wrQ 48 sgnI := by
  unfold KC.L elL elP
  rfl
theorem has_kindN {w w' : World} {base k n c : Nat} {e t : TypeId} {A : Option Addr} {vs : List Value} (h : OwnR w base e k A n c vs) {q : Nat} {cs : Array Value} {mk : Nat × Nat} (hq : w.heap[q]? = some (.cells cs t mk)) (hg : w.grownBy w' (blk A)) (ht : e ≠ t) : w'.heap[q]? = some (.cells cs t mk) :=
  (hg.block q (block_lt hq) (fun e => by
    obtain ⟨cur, h1⟩ := h.kind q e.symm
    rw [hq] at h1
    injection h1 with h1
    injection h1 with _ h3
    exact ht h3.symm)).trans hq
def mt1 (O : List UInt8) : Nat := if O = sgO then 0 else 9
def mt3 (O : List UInt8) : Nat := if O = rsO then 0 else 9
theorem me1_er (k : KC) (O : List UInt8) (h : ∃ a, oidQ O = some a) (hl : O.length ≤ 300) : erQ (me1C k O) = mt1 O := by
  unfold mt1
  split
  · rename_i hn
    obtain ⟨c, hc⟩ := me1_yes k O h hl hn
    exact er_yes hc
  · rename_i hn
    exact er_no (me1_no k O h hl hn)
theorem me2_er (k : KC) (O : List UInt8) (h : ∃ a, oidQ O = some a) (hl : O.length ≤ 300) : erQ (me2C k O) = mt1 O := by
  unfold mt1
  split
  · rename_i hn
    obtain ⟨c, hc⟩ := me2_yes k O hn
    exact er_yes hc
  · rename_i hn
    exact er_no (me2_no k O h hl hn)
theorem me3_er (k : KC) (O : List UInt8) (h : ∃ a, oidQ O = some a) (hl : O.length ≤ 300) : erQ (me3C k O) = mt3 O := by
  unfold mt3
  split
  · rename_i hn
    obtain ⟨c, hc, _⟩ := me3_yes k O h hl hn
    exact er_yes hc
  · rename_i hn
    exact er_no (me3_no k O h hl hn)

set_option maxHeartbeats 32000000 in
theorem methods_row (k : KC) (A : Option Addr) (n c : Nat) (xs : List Nat) (w : World) (hk : IsKC w k) (hN : IsNsR w A n c xs) : Calls Try.prog 10 #[k.val, .slice A n c] w fun e w' => e = .returned (.bool true) ∧ Below w.heap.size w w' := by
  have HOI := Lib.hid (mt_oid xs hN.lt)
  have HKC := Lib.hid hk
  have HCS := Lib.hid (kc_info k)
  unfold KC.val
  obtain ⟨CC, HCC⟩ : ∃ CC, Hid (k.cells = CC) := ⟨_, Lib.hid rfl⟩
  have ICC : Hid ((Try.prog.info? 28).map (·.size) = some CC.size) := by rw [← HCC.out]; exact Lib.hid (kc_info k)
  clear hk HCS
  rw [HCC.out]
  go_enter Try.func10, Try.ntmps10
  go_upto_region 1 with (fail)
  refine wp_nm fun w0 hw0 => ?_
  have HB := Lib.hid (show Below w.heap.size w w0 by rw [← hw0]; exact kp_alloc (Below.refl _ _) _)
  have HK := Lib.hid (show w0.heap[w.heap.size]? = some (.cells CC 28) by rw [← hw0]; exact has_new _ _)
  clear hw0
  go_wp2_with fail
  refine (putoidR (hN.below HB.out)).mono ?_
  rintro e' w1 ⟨A5, n5, c5, rfl, ho, hb⟩
  have HO := Lib.hid (ho.lower (base' := w.heap.size) HB.out.size)
  have hl5 := ho.len
  replace HB := Lib.hid (kp_call HB.out hb)
  replace HK := Lib.hid (has_below HK.out hb)
  clear ho hb
  generalize putoidQ xs = P at *
  go_upto_region 2 with (fail)
  go_cut [27] from 28 (fun v wx => ∃ d : Bool, v = .bool d ∧ Hid (d = decide (P.length = 0 ∨ 300 < P.length)) ∧ w1 = wx)
  case first =>
    as_aux_lemma =>
    obtain h0 | h0 : n5 = 0 ∨ 0 < n5 := by omega
    · have Q2 := Lib.hid (show decide (P.length = 0 ∨ 300 < P.length) = true from decide_eq_true (.inl (by omega)))
      subst h0
      go_wp2
      go_meet
      exact ⟨_, rfl, Lib.hid Q2.out.symm, rfl⟩
    · have q1 : ((n5 : Int) == 0) = false := beq_eq_false_iff_ne.2 (by omega)
      have q2 : (n5 == 0) = false := beq_eq_false_iff_ne.2 (by omega)
      obtain h1 | h1 : 300 < n5 ∨ n5 ≤ 300 := by omega
      · have Q2 := Lib.hid (show decide (P.length = 0 ∨ 300 < P.length) = true from decide_eq_true (.inr (by omega)))
        have q3 : decide ((300 : Int) < (n5 : Int)) = true := decide_eq_true (by omega)
        have q4 : decide (300 < n5) = true := decide_eq_true h1
        clear h0 h1
        go_wp2
        go_meet
        exact ⟨_, rfl, Lib.hid Q2.out.symm, rfl⟩
      · have Q2 := Lib.hid (show decide (P.length = 0 ∨ 300 < P.length) = false from decide_eq_false (by omega))
        have q3 : decide ((300 : Int) < (n5 : Int)) = false := decide_eq_false (by omega)
        have q4 : decide (300 < n5) = false := decide_eq_false (by omega)
        clear h0 h1
        go_wp2
        go_meet
        exact ⟨_, rfl, Lib.hid Q2.out.symm, rfl⟩
  obtain ⟨d, rfl, HD, hwc⟩ := hcut
  subst hwc
  go_upto_if 27 with (fail)
  go_cut [5] from 18 (fun v5 wx => ∃ A6 n6 c6, v5 = .slice A6 n6 c6 ∧ Hid (OwnB wx w.heap.size A6 n6 c6 (mtQ P)) ∧ Hid (Below w.heap.size w wx) ∧ Hid (wx.heap[w.heap.size]? = some (.cells CC 28)))
  case first =>
    as_aux_lemma =>
    cases d with
    | false =>
      have hm : mtQ P = P := by unfold mtQ; rw [if_neg (of_decide_eq_false HD.out.symm)]
      have HM := Lib.hid hm
      clear hm
      go_wp2
      go_meet
      exact ⟨A5, n5, c5, rfl, Lib.hid (by rw [HM.out]; exact HO.out), HB, HK⟩
    | true =>
      have hm : mtQ P = [42, 3] := by unfold mtQ; rw [if_pos (of_decide_eq_true HD.out.symm)]
      have HM := Lib.hid hm
      clear hm
      go_wp2
      go_meet
      exact ⟨_, _, _, rfl, Lib.hid (by rw [HM.out]; exact (own_lit w1 [42, 3] 2 _ rfl rfl (by omega)).lower HB.out.size), Lib.hid (kp_alloc HB.out _), Lib.hid (has_alloc HK.out _)⟩
  obtain ⟨A5, n5, c5, rfl, HO, HB, HK⟩ := hcut
  obtain ⟨w2, rfl⟩ : ∃ x, x = wc := ⟨_, rfl⟩
  have hol := mt_fits P
  have hn5 := HO.out.len
  clear hl5 HD
  generalize mtQ P = O at *
  have hal := algI_len O hol
  have haw := wrQ_len 48 (algI O) (by omega)
  go_wp2_with fail
  refine (rwrite_any 6 A5 n5 c5 O w2 HO.out.rb (by omega)).mono ?_
  rintro e' w3 ⟨A6, n6, c6, rfl, ho, hb⟩
  have HO6 := Lib.hid ho.rb
  replace HB := Lib.hid (kp_call HB.out hb)
  replace HK := Lib.hid (has_below HK.out hb)
  replace HO := Lib.hid (HO.out.below hb (Nat.le_refl _))
  clear ho hb
  go_wp2_with fail
  refine calls_nm fun w4 hw4 => ?_
  have hb : Below w3.heap.size w3 w4 := by rw [← hw4]; exact kp_alloc (kp_alloc (Below.refl _ _) _) _
  have HM := Lib.hid (show RowsP w4 (some ⟨w3.heap.size + 1, 0, none⟩) [(A6, n6, c6, wrQ 6 O), (some ⟨w3.heap.size, 0, none⟩, 2, 2, [5, 0])] by
    rw [← hw4]
    have h9 := RowsP.new (w := w3.alloc (.cells #[.int .u8 5, .int .u8 0] 5)) (cs := #[.slice A6 n6 c6, .slice (some ⟨w3.heap.size, 0, none⟩) 2 2]) (t := 22) (l := [(A6, n6, c6, wrQ 6 O), (some ⟨w3.heap.size, 0, none⟩, 2, 2, [5, 0])]) rfl (all1R (HO6.out.below (kp_alloc (Below.refl _ _) _)) (all1R (own_lit w3 [5, 0] 2 _ rfl rfl (by omega)).rb all0R))
    simpa using h9)
  replace HB := Lib.hid (kp_call HB.out hb)
  replace HK := Lib.hid (has_below HK.out hb)
  replace HO := Lib.hid (HO.out.below hb (Nat.le_refl _))
  clear hw4 hb HO6
  refine (seq_any _ 2 2 _ w4 HM.out rfl (by omega) (by rw [flat_map]; simp only [List.map_cons, List.map_nil, List.flatten_cons, List.flatten_nil, List.append_nil]; exact Nat.le_trans hal (by omega))).mono ?_
  rintro e' w5 ⟨A7, n7, c7, rfl, ho, hb⟩
  rw [flat_map] at ho
  have HA := Lib.hid (show OwnB w5 w.heap.size A7 n7 c7 (wrQ 48 (algI O)) by have h9 := ho.lower (base' := w.heap.size) HB.out.size; unfold algI; simpa only [List.map_cons, List.map_nil, List.flatten_cons, List.flatten_nil, List.append_nil] using h9)
  have hn7 := HA.out.len
  replace HB := Lib.hid (kp_call HB.out hb)
  replace HK := Lib.hid (has_below HK.out hb)
  replace HO := Lib.hid (HO.out.below hb (Nat.le_refl _))
  clear ho hb HM
  go_wp2_with (refine wpList_load_row rfl _ _ rfl w.heap.size rfl _ CC _ _ HK.out Try.underlying28 rfl ICC.out ?_)
  rw [← HCC.out]
  refine (k.elems w HKC.out w5 HB.out).mono ?_
  rw [HCC.out]
  rintro e' w6 ⟨AE, nE, cE, lE, rfl, hR, hl, hb⟩
  have hn77 : nE = 7 := by have h1 := hR.len; have h2 := congrArg List.length hl; rw [List.length_map, elL_len] at h2; omega
  subst hn77
  obtain ⟨gE, rfl, hgE, _⟩ := hR.own.shape (by have := hR.own.cap; omega)
  have hl7 := hR.len
  have HRE := Lib.hid (hR.lower HB.out.size)
  have HLE := Lib.hid (show lE.map (·.2.2.2) = k.L from hl)
  replace HB := Lib.hid (kp_call HB.out hb)
  replace HK := Lib.hid (has_below HK.out hb)
  replace HO := Lib.hid (HO.out.below hb (Nat.le_refl _))
  replace HA := Lib.hid (HA.out.below hb (Nat.le_refl _))
  have r2 := row_cellX HRE.out 2 (by omega)
  have m2 : lE.getD 2 Row1.nul ∈ lE := by rw [List.getD_eq_getElem?_getD, List.getElem?_eq_getElem (show 2 < lE.length by omega)]; exact List.getElem_mem _
  have b2 := (HRE.out.rb _ m2).rb
  have e2 : (lE.getD 2 Row1.nul).2.2.2 = wrQ 48 sgnI := by
    rw [← L2_sgn k, ← HLE.out]
    simp only [List.getD_eq_getElem?_getD, List.getElem?_map]
    rw [List.getElem?_eq_getElem (show 2 < lE.length by omega)]
    rfl
  rw [e2] at b2
  obtain ⟨⟨A2, n2, c2, bs2⟩, hz⟩ : ∃ z, lE.getD 2 Row1.nul = z := ⟨_, rfl⟩
  rw [hz] at r2 b2
  have R2 := Lib.hid (show w6.cell? ⟨gE, 2, none⟩ = some (.slice A2 n2 c2) from r2)
  have B2 := Lib.hid (show RB w6 A2 n2 (wrQ 48 sgnI) from b2)
  clear hR hl hb r2 m2 b2 e2 hz
  obtain ⟨sA, hsA⟩ : ∃ s, (⟨(wrQ 48 (algI O)).toArray⟩ : ByteArray) = s := ⟨_, rfl⟩
  obtain ⟨sG, hsG⟩ : ∃ s, (⟨(wrQ 48 sgnI).toArray⟩ : ByteArray) = s := ⟨_, rfl⟩
  have HSE := Lib.hid (show (sA.toList == sG.toList) = decide (O = sgO) by rw [← hsA, ← hsG, bstr_eq]; exact decide_eq_decide.2 (alg_sgn O hol))
  have KA := Lib.hid (show ∀ (W : World) (c : Nat), RB W A7 n7 (wrQ 48 (algI O)) → (convert 22 9 (.slice A7 n7 c)).run Try.prog W = .ok (.string sA) W from fun W c h => by rw [← hsA]; exact run_bstring h)
  have KG := Lib.hid (show ∀ (W : World) (c : Nat), RB W A2 n2 (wrQ 48 sgnI) → (convert 22 9 (.slice A2 n2 c)).run Try.prog W = .ok (.string sG) W from fun W c h => by rw [← hsG]; exact run_bstring h)
  clear hsA hsG
  go_upto_region 6 with (fail)
  refine wp_region_mono (by kernel_rfl) (by kernel_rfl) [36, 37, 38, 39, 40, 41, 42, 8] (by rfl) (by decide) (by rfl) (fun j => ([MR.eq (.slice A7 n7 c7), MR.eq (.string sA), MR.eq (.slice (some ⟨gE, 0, none⟩) 7 cE), MR.eq (.pointer (some ⟨gE, 2, none⟩)), MR.eq (.slice A2 n2 c2), MR.eq (.string sG), MR.eq (.bool (sA.toList == sG.toList)), MR.eq (.bool (sA.toList == sG.toList))] : List MR).getD j MR.any) [] [] (by kernel_rfl) (by kernel_rfl) ?_ ?_
  · intro i hi ρ W E
    simp only [List.length_cons, List.length_nil] at hi
    have hbW : w.heap.size ≤ W.heap.size := Nat.le_trans HB.out.size E.up.size
    rcases (show i = 0 ∨ i = 1 ∨ i = 2 ∨ i = 3 ∨ i = 4 ∨ i = 5 ∨ i = 6 ∨ i = 7 by omega) with rfl | rfl | rfl | rfl | rfl | rfl | rfl | rfl
    · -- 0: move t6
      refine mono_at (by rfl) rfl ?_
      have e6 : ρ (.tmp 6) = .slice A7 n7 c7 := E.old 6 rfl
      exact mo_move rfl ⟨Below.refl _ _, e6⟩
    · -- 1: convert 22 9 t36
      refine mono_at (by rfl) rfl ?_
      have e36 : ρ (.tmp 36) = .slice A7 n7 c7 := E.dep 0 (by kernel_rfl)
      exact mo_conv rfl e36 (KA.out W _ (HA.out.rb.below E.up)) ⟨Below.refl _ _, rfl⟩
    · -- 2: move t7
      refine mono_at (by rfl) rfl ?_
      have e7 : ρ (.tmp 7) = .slice (some ⟨gE, 0, none⟩) 7 cE := E.old 7 rfl
      exact mo_move rfl ⟨Below.refl _ _, e7⟩
    · -- 3: indexAddr 56 t38 (const (2:i64))
      refine mono_at (by rfl) rfl ?_
      have e38 : ρ (.tmp 38) = .slice (some ⟨gE, 0, none⟩) 7 cE := E.dep 2 (by kernel_rfl)
      exact mo_index rfl e38 (E.cst _) (by kernel_rfl) ⟨Below.refl _ _, rfl⟩
    · -- 4: load 22 t39
      refine mono_at (by rfl) rfl ?_
      have e39 : ρ (.tmp 39) = .pointer (some ⟨gE, 2, none⟩) := E.dep 3 (by kernel_rfl)
      exact mo_load1 rfl e39 (E.up.cell (p := ⟨gE, 2, none⟩) (World.block_lt_of_cell? w6 _ R2.out) |>.trans R2.out) (fun w => by kernel_rfl) ⟨Below.refl _ _, rfl⟩
    · -- 5: convert 22 9 t40
      refine mono_at (by rfl) rfl ?_
      have e40 : ρ (.tmp 40) = .slice A2 n2 c2 := E.dep 4 (by kernel_rfl)
      exact mo_conv rfl e40 (KG.out W _ (B2.out.below E.up)) ⟨Below.refl _ _, rfl⟩
    · -- 6: binOp BinOp.eql 9 t37 t41 9
      refine mono_at (by rfl) rfl ?_
      have e37 : ρ (.tmp 37) = .string sA := E.dep 1 (by kernel_rfl)
      have e41 : ρ (.tmp 41) = .string sG := E.dep 5 (by kernel_rfl)
      exact mo_bin rfl (fun _ _ => rfl) e37 e41 (run_eqstr sA sG) ⟨Below.refl _ _, rfl⟩
    · -- 7: assign t42
      refine mono_at (by rfl) rfl ?_
      have e42 : ρ (.tmp 42) = .bool (sA.toList == sG.toList) := E.dep 6 (by kernel_rfl)
      exact mo_assign rfl ⟨Below.refl _ _, e42⟩
  · intro u W hbU hR
    have hu8 : u 7 = .bool (sA.toList == sG.toList) := hR 7 (by decide)
    clear hR
    simp only [lay, Nat.reduceAdd, List.setIfInBounds_toArray, List.set_cons_zero, List.set_cons_succ, hu8]
    clear hu8
    rw [HSE.out]
    clear KA KG HSE R2 B2
    replace HB := Lib.hid (kp_call HB.out hbU)
    replace HK := Lib.hid (has_below HK.out hbU)
    replace HO := Lib.hid (HO.out.below hbU (Nat.le_refl _))
    replace HA := Lib.hid (HA.out.below hbU (Nat.le_refl _))
    replace HRE := Lib.hid (HRE.out.below hbU)
    obtain ⟨w7, rfl⟩ : ∃ x, x = W := ⟨_, rfl⟩
    clear hbU
    have HL1 := Lib.hid (me1_len k O hol)
    go_wp2_with (refine wpList_load_row rfl _ _ rfl w.heap.size rfl _ CC _ _ HK.out Try.underlying28 rfl ICC.out ?_)
    rw [← HCC.out]
    refine (k.put w HKC.out w7 HB.out 2 2 rfl (by omega) HA.out.rb (by omega)).mono ?_
    rw [HCC.out]
    rintro e' w8 ⟨AP, nP, cP, rfl, ho, hb⟩
    have HPB := Lib.hid (show OwnB w8 w7.heap.size AP nP cP (me1C k O) from ho)
    replace HB := Lib.hid (kp_call HB.out hb)
    replace HK := Lib.hid (has_below HK.out hb)
    replace HO := Lib.hid (HO.out.below hb (Nat.le_refl _))
    replace HA := Lib.hid (HA.out.below hb (Nat.le_refl _))
    replace HRE := Lib.hid (HRE.out.below hb)
    clear ho hb
    go_wp2_with fail
    refine (parse9_any AP nP cP (me1C k O) w8 HPB.out.rb HPB.out.cap.1 HPB.out.cap.2 (by rw [← HPB.out.len]; have h2 := cert_len (wrQ 48 (k.L.set 2 (wrQ 48 (algI O))).flatten) (k.gb.take 100) (by have := wrQ_len 48 (k.L.set 2 (wrQ 48 (algI O))).flatten (Nat.le_trans HL1.out (by omega)); have := HL1.out; omega) (by have := take_len k.gb 100; omega); have h3 := wrQ_len 48 (k.L.set 2 (wrQ 48 (algI O))).flatten (Nat.le_trans HL1.out (by omega)); have h4 := take_len k.gb 100; have h5 := HL1.out; unfold me1C; omega)).mono ?_
    rintro e' w9 ⟨D1, rfl, hp, hb⟩
    have HS := Lib.hid hp.size
    have ID := Lib.hid (info24 hp.size.1)
    have HP := Lib.hid hp
    rw [me1_er k O HOI.out hol]
    replace HB := Lib.hid (kp_call HB.out hb)
    replace HK := Lib.hid (has_below HK.out hb)
    replace HO := Lib.hid (HO.out.below hb (Nat.le_refl _))
    replace HA := Lib.hid (HA.out.below hb (Nat.le_refl _))
    replace HRE := Lib.hid (HRE.out.below hb)
    clear hp hb HPB
    go_upto_region 8 with (refine wpList_store_row rfl _ _ _ rfl w9.heap.size D1 rfl rfl _ _ (has_new w9 _) ID.out (by rw [HS.out.1]; rfl) HS.out.2 ?_)
    refine wp_nm fun w10 hw => ?_
    have HD := Lib.hid (show w10.heap[w9.heap.size]? = some (.cells D1 33) by rw [← hw]; exact setRow_heap _ _ _ _ _ _ (has_new w9 _))
    have hb : Below w9.heap.size w9 w10 := by rw [← hw]; exact below_setRow (kp_alloc (Below.refl _ _) _) (Nat.le_refl _) _
    replace HP := Lib.hid (HP.out.below hb)
    replace HB := Lib.hid (kp_call HB.out hb)
    replace HK := Lib.hid (has_below HK.out hb)
    replace HO := Lib.hid (HO.out.below hb (Nat.le_refl _))
    replace HA := Lib.hid (HA.out.below hb (Nat.le_refl _))
    replace HRE := Lib.hid (HRE.out.below hb)
    clear hw hb ID HS
    clear HD HP HL1
    have hkl := k.Llen
    go_wp2_with fail
    refine (seq_any (some ⟨gE, 0, none⟩) 7 cE _ w10 HRE.out.rows HRE.out.len (by omega) (by rw [flat_map, HLE.out]; omega)).mono ?_
    rintro e' w11 ⟨A8, n8, c8, rfl, ho, hb⟩
    rw [flat_map, HLE.out] at ho
    have HS8 := Lib.hid ho.rb
    have hw8 := wrQ_len 48 k.L.flatten (by omega)
    replace HB := Lib.hid (kp_call HB.out hb)
    replace HK := Lib.hid (has_below HK.out hb)
    replace HO := Lib.hid (HO.out.below hb (Nat.le_refl _))
    replace HA := Lib.hid (HA.out.below hb (Nat.le_refl _))
    clear ho hb HRE HLE
    go_wp2_with fail
    refine calls_nm fun w12 hw12 => ?_
    have hb : Below w11.heap.size w11 w12 := by rw [← hw12]; exact kp_alloc (Below.refl _ _) _
    have HZ := Lib.hid (show RB w12 (some ⟨w11.heap.size, 0, none⟩) 1 [0] by rw [← hw12]; exact (own_lit w11 [0] 1 _ rfl rfl (by omega)).rb)
    replace HB := Lib.hid (kp_call HB.out hb)
    replace HK := Lib.hid (has_below HK.out hb)
    replace HO := Lib.hid (HO.out.below hb (Nat.le_refl _))
    replace HA := Lib.hid (HA.out.below hb (Nat.le_refl _))
    replace HS8 := Lib.hid (HS8.out.below hb)
    clear hw12 hb
    refine (rwrite_any 3 _ 1 1 [0] w12 HZ.out (by omega)).mono ?_
    rintro e' w13 ⟨A9, n9, c9, rfl, ho, hb⟩
    have HS9 := Lib.hid ho.rb
    replace HB := Lib.hid (kp_call HB.out hb)
    replace HK := Lib.hid (has_below HK.out hb)
    replace HO := Lib.hid (HO.out.below hb (Nat.le_refl _))
    replace HA := Lib.hid (HA.out.below hb (Nat.le_refl _))
    replace HS8 := Lib.hid (HS8.out.below hb)
    clear ho hb HZ
    have hw9 : (wrQ 3 [0]).length = 3 := by decide +kernel
    go_wp2_with fail
    refine calls_nm fun w14 hw14 => ?_
    have hb : Below w13.heap.size w13 w14 := by rw [← hw14]; exact kp_alloc (Below.refl _ _) _
    have HM := Lib.hid (show RowsP w14 (some ⟨w13.heap.size, 0, none⟩) [(A8, n8, c8, wrQ 48 k.L.flatten), (A7, n7, c7, wrQ 48 (algI O)), (A9, n9, c9, wrQ 3 [0])] by
      rw [← hw14]
      exact RowsP.new rfl (all1R HS8.out (all1R HA.out.rb (all1R HS9.out all0R))))
    replace HB := Lib.hid (kp_call HB.out hb)
    replace HK := Lib.hid (has_below HK.out hb)
    replace HO := Lib.hid (HO.out.below hb (Nat.le_refl _))
    replace HA := Lib.hid (HA.out.below hb (Nat.le_refl _))
    clear hw14 hb HS8 HS9
    refine (seq_any _ 3 3 _ w14 HM.out rfl (by omega) (by rw [flat_map]; simp only [List.map_cons, List.map_nil, List.flatten_cons, List.flatten_nil, List.append_nil, List.length_append]; omega)).mono ?_
    rintro e' w15 ⟨AP, nP, cP, rfl, ho, hb⟩
    rw [flat_map] at ho
    have HPB := Lib.hid (show OwnB w15 w14.heap.size AP nP cP (me2C k O) by unfold me2C; simpa only [List.map_cons, List.map_nil, List.flatten_cons, List.flatten_nil, List.append_nil] using ho)
    have h2l : (me2C k O).length ≤ 4000 := by
      have h9 := wrQ_len 48 (wrQ 48 k.L.flatten ++ (wrQ 48 (algI O) ++ wrQ 3 [0])) (by simp only [List.length_append]; omega)
      simp only [List.length_append] at h9
      unfold me2C
      omega
    replace HB := Lib.hid (kp_call HB.out hb)
    replace HK := Lib.hid (has_below HK.out hb)
    replace HO := Lib.hid (HO.out.below hb (Nat.le_refl _))
    replace HA := Lib.hid (HA.out.below hb (Nat.le_refl _))
    clear ho hb HM
    go_wp2_with fail
    refine (parse9_any AP nP cP (me2C k O) w15 HPB.out.rb HPB.out.cap.1 HPB.out.cap.2 (by rw [← HPB.out.len]; omega)).mono ?_
    rintro e' w16 ⟨D2, rfl, hp, hb⟩
    have HS := Lib.hid hp.size
    have ID := Lib.hid (info24 hp.size.1)
    rw [me2_er k O HOI.out hol]
    replace HB := Lib.hid (kp_call HB.out hb)
    replace HK := Lib.hid (has_below HK.out hb)
    replace HO := Lib.hid (HO.out.below hb (Nat.le_refl _))
    replace HA := Lib.hid (HA.out.below hb (Nat.le_refl _))
    clear hp hb HPB
    go_upto_region 10 with (refine wpList_store_row rfl _ _ _ rfl w16.heap.size D2 rfl rfl _ _ (has_new w16 _) ID.out (by rw [HS.out.1]; rfl) HS.out.2 ?_)
    refine wp_nm fun w17 hw => ?_
    have hb : Below w16.heap.size w16 w17 := by rw [← hw]; exact below_setRow (kp_alloc (Below.refl _ _) _) (Nat.le_refl _) _
    replace HB := Lib.hid (kp_call HB.out hb)
    replace HK := Lib.hid (has_below HK.out hb)
    replace HO := Lib.hid (HO.out.below hb (Nat.le_refl _))
    replace HA := Lib.hid (HA.out.below hb (Nat.le_refl _))
    clear hw hb ID HS
    go_wp2_with fail
    refine calls_nm fun w18 hw18 => ?_
    have hb : Below w17.heap.size w17 w18 := by rw [← hw18]; exact kp_alloc (kp_alloc (kp_alloc (kp_alloc (Below.refl _ _) _) _) _) _
    have FA7 := Lib.hid (show blk A7 ≠ some w17.heap.size from fun e => by have := (HA.out.blk_lt e).2; omega)
    have FA5 := Lib.hid (show blk A5 ≠ some w17.heap.size from fun e => by have := (HO.out.blk_lt e).2; omega)
    have H0 := Lib.hid (show OwnB w18 w.heap.size (some ⟨w17.heap.size, 0, none⟩) 1 1 [0] by
      rw [← hw18]
      exact (((own_lit w17 [0] 1 _ rfl rfl (by omega)).lower HB.out.size).alloc _).alloc _ |>.alloc _)
    have HM := Lib.hid (show RowsP w18 (some ⟨w17.heap.size + 3, 0, none⟩) [(some ⟨w17.heap.size + 1, 0, none⟩, 3, 3, [2, 1, 5]), (some ⟨w17.heap.size + 2, 0, none⟩, 3, 3, [2, 1, 3])] by
      rw [← hw18]
      have h1 := (own_lit (w17.alloc (.cells #[.int .u8 0] 5)) [2, 1, 5] 3 _ rfl rfl (by omega)).rb
      have h2 := (own_lit ((w17.alloc (.cells #[.int .u8 0] 5)).alloc (.cells #[.int .u8 2, .int .u8 1, .int .u8 5] 5)) [2, 1, 3] 3 _ rfl rfl (by omega)).rb
      simp only [World.size_alloc] at h1 h2
      have h9 := RowsP.new (w := (((w17.alloc (.cells #[.int .u8 0] 5)).alloc (.cells #[.int .u8 2, .int .u8 1, .int .u8 5] 5)).alloc (.cells #[.int .u8 2, .int .u8 1, .int .u8 3] 5))) (cs := #[.slice (some ⟨w17.heap.size + 1, 0, none⟩) 3 3, .slice (some ⟨w17.heap.size + 2, 0, none⟩) 3 3]) (t := 22) (l := [(some ⟨w17.heap.size + 1, 0, none⟩, 3, 3, [2, 1, 5]), (some ⟨w17.heap.size + 2, 0, none⟩, 3, 3, [2, 1, 3])]) rfl (all1R (h1.alloc _) (all1R h2 all0R))
      simpa using h9)
    replace HB := Lib.hid (kp_call HB.out hb)
    replace HK := Lib.hid (has_below HK.out hb)
    replace HO := Lib.hid (HO.out.below hb (Nat.le_refl _))
    replace HA := Lib.hid (HA.out.below hb (Nat.le_refl _))
    clear hw18 hb
    refine (seq_any _ 2 2 _ w18 HM.out rfl (by omega) (by simp [flatR])).mono ?_
    rintro e' w19 ⟨A9, n9, c9, rfl, ho, hb⟩
    rw [flat_map] at ho
    have HK9 := Lib.hid (show RB w19 A9 n9 (wrQ 48 [2, 1, 5, 2, 1, 3]) by simpa only [List.map_cons, List.map_nil, List.flatten_cons, List.flatten_nil, List.append_nil, List.cons_append, List.nil_append] using ho.rb)
    have hn9 : n9 = 8 := by rw [← HK9.out.1]; decide +kernel
    subst hn9
    replace HB := Lib.hid (kp_call HB.out hb)
    replace HK := Lib.hid (has_below HK.out hb)
    replace HO := Lib.hid (HO.out.below hb (Nat.le_refl _))
    replace HA := Lib.hid (HA.out.below hb (Nat.le_refl _))
    replace H0 := Lib.hid (H0.out.below hb (Nat.le_refl _))
    clear ho hb HM
    obtain ⟨g0, hg0⟩ : ∃ x, x = w17.heap.size := ⟨_, rfl⟩
    rw [← hg0] at H0 FA7 FA5 ⊢
    have HG0 := Lib.hid hg0
    have hlow : g0 < w19.heap.size := (H0.out.blk_lt rfl).2
    clear hg0
    go_wp2_with (at_builtin; refine wpList_apn _ _ rfl rfl rfl w.heap.size (some ⟨g0, 0, none⟩) 1 1 _ rfl H0.out A9 8 c9 _ rfl HK9.out (by omega) HB.out.size ?_)
    intro A0' c0' w20 ho hg
    have HKY := Lib.hid (show OwnB w20 w.heap.size A0' 9 c0' kyB from ho)
    replace HK := Lib.hid (has_kindN (OwnB.row H0.out) HK.out hg (by decide))
    replace HA := Lib.hid (HA.out.kept hg (.inr FA7.out))
    replace HO := Lib.hid (HO.out.kept hg (.inr FA5.out))
    replace HB := Lib.hid (HB.out.grown hg HB.out.size (fun g hg => (H0.out.blk_lt hg).1))
    clear ho hg H0 HK9
    go_wp2_with fail
    refine (rwrite_any 3 A0' 9 c0' kyB w20 HKY.out.rb (by omega)).mono ?_
    rintro e' w21 ⟨A9, n9, c9', rfl, ho, hb⟩
    have HS9 := Lib.hid ho.rb
    replace HB := Lib.hid (kp_call HB.out hb)
    replace HK := Lib.hid (has_below HK.out hb)
    replace HO := Lib.hid (HO.out.below hb (Nat.le_refl _))
    replace HA := Lib.hid (HA.out.below hb (Nat.le_refl _))
    clear ho hb HKY
    go_wp2_with fail
    refine calls_nm fun w22 hw22 => ?_
    have hb : Below w21.heap.size w21 w22 := by rw [← hw22]; exact kp_alloc (Below.refl _ _) _
    have HM := Lib.hid (show RowsP w22 (some ⟨w21.heap.size, 0, none⟩) [(A7, n7, c7, wrQ 48 (algI O)), (A9, n9, c9', wrQ 3 kyB)] by
      rw [← hw22]
      exact RowsP.new rfl (all1R HA.out.rb (all1R HS9.out all0R)))
    replace HB := Lib.hid (kp_call HB.out hb)
    replace HK := Lib.hid (has_below HK.out hb)
    replace HO := Lib.hid (HO.out.below hb (Nat.le_refl _))
    replace HA := Lib.hid (HA.out.below hb (Nat.le_refl _))
    clear hw22 hb HS9
    have hsl := spO_len O hol
    refine (seq_any _ 2 2 _ w22 HM.out rfl (by omega) (by rw [flat_map]; simp only [List.map_cons, List.map_nil, List.flatten_cons, List.flatten_nil, List.append_nil]; exact Nat.le_trans hsl (by omega))).mono ?_
    rintro e' w23 ⟨A8, n8, c8', rfl, ho, hb⟩
    rw [flat_map] at ho
    have HSP := Lib.hid (show OwnB w23 w.heap.size A8 n8 c8' (wrQ 48 (spO O)) by have h9 := ho.lower (base' := w.heap.size) HB.out.size; unfold spO; simpa only [List.map_cons, List.map_nil, List.flatten_cons, List.flatten_nil, List.append_nil] using h9)
    have hn8 := HSP.out.len
    have hws := wrQ_len 48 (spO O) (by omega)
    replace HB := Lib.hid (kp_call HB.out hb)
    replace HK := Lib.hid (has_below HK.out hb)
    replace HO := Lib.hid (HO.out.below hb (Nat.le_refl _))
    replace HA := Lib.hid (HA.out.below hb (Nat.le_refl _))
    clear ho hb HM
    have HL3 := Lib.hid (me3_len k O hol)
    go_wp2_with (refine wpList_load_row rfl _ _ rfl w.heap.size rfl _ CC _ _ HK.out Try.underlying28 rfl ICC.out ?_)
    rw [← HCC.out]
    refine (k.put w HKC.out w23 HB.out 6 6 rfl (by omega) HSP.out.rb (by omega)).mono ?_
    rw [HCC.out]
    rintro e' w24 ⟨AP, nP, cP, rfl, ho, hb⟩
    have HPB := Lib.hid (show OwnB w24 w23.heap.size AP nP cP (me3C k O) from ho)
    replace HB := Lib.hid (kp_call HB.out hb)
    replace HK := Lib.hid (has_below HK.out hb)
    replace HO := Lib.hid (HO.out.below hb (Nat.le_refl _))
    replace HA := Lib.hid (HA.out.below hb (Nat.le_refl _))
    replace HSP := Lib.hid (HSP.out.below hb (Nat.le_refl _))
    clear ho hb
    go_wp2_with fail
    refine (parse9_any AP nP cP (me3C k O) w24 HPB.out.rb HPB.out.cap.1 HPB.out.cap.2 (by rw [← HPB.out.len]; have h2 := cert_len (wrQ 48 (k.L.set 6 (wrQ 48 (spO O))).flatten) (k.gb.take 100) (by have := wrQ_len 48 (k.L.set 6 (wrQ 48 (spO O))).flatten (Nat.le_trans HL3.out (by omega)); have := HL3.out; omega) (by have := take_len k.gb 100; omega); have h3 := wrQ_len 48 (k.L.set 6 (wrQ 48 (spO O))).flatten (Nat.le_trans HL3.out (by omega)); have h4 := take_len k.gb 100; have h5 := HL3.out; unfold me3C; omega)).mono ?_
    rintro e' w25 ⟨D3, rfl, hp, hb⟩
    have HS := Lib.hid hp.size
    have ID := Lib.hid (info24 hp.size.1)
    have HP := Lib.hid hp
    rw [me3_er k O HOI.out hol]
    replace HB := Lib.hid (kp_call HB.out hb)
    replace HK := Lib.hid (has_below HK.out hb)
    replace HO := Lib.hid (HO.out.below hb (Nat.le_refl _))
    replace HA := Lib.hid (HA.out.below hb (Nat.le_refl _))
    clear hp hb HPB
    go_upto_region 12 with (refine wpList_store_row rfl _ _ _ rfl w25.heap.size D3 rfl rfl _ _ (has_new w25 _) ID.out (by rw [HS.out.1]; rfl) HS.out.2 ?_)
    refine wp_nm fun w26 hw => ?_
    have HD := Lib.hid (show w26.heap[w25.heap.size]? = some (.cells D3 33) by rw [← hw]; exact setRow_heap _ _ _ _ _ _ (has_new w25 _))
    have hb : Below w25.heap.size w25 w26 := by rw [← hw]; exact below_setRow (kp_alloc (Below.refl _ _) _) (Nat.le_refl _) _
    replace HP := Lib.hid (HP.out.below hb)
    replace HB := Lib.hid (kp_call HB.out hb)
    replace HK := Lib.hid (has_below HK.out hb)
    replace HO := Lib.hid (HO.out.below hb (Nat.le_refl _))
    replace HA := Lib.hid (HA.out.below hb (Nat.le_refl _))
    clear hw hb ID HS
    clear HL3 HSP HA
    obtain ⟨sO, hsO⟩ : ∃ s, (⟨O.toArray⟩ : ByteArray) = s := ⟨_, rfl⟩
    obtain ⟨sR, hsR⟩ : ∃ s, (⟨rsO.toArray⟩ : ByteArray) = s := ⟨_, rfl⟩
    have HSE := Lib.hid (show (sO.toList == sR.toList) = decide (O = rsO) by rw [← hsO, ← hsR, bstr_eq])
    have k1 := run_bstring (c := c5) HO.out.rb
    have k2 := run_bstring (c := 9) (own_lit w26 rsO 9 #[.int .u8 42, .int .u8 134, .int .u8 72, .int .u8 134, .int .u8 247, .int .u8 13, .int .u8 1, .int .u8 1, .int .u8 1] rfl rfl (by omega)).rb
    rw [hsO] at k1
    rw [hsR] at k2
    clear hsO hsR
    obtain ⟨gD, hgD⟩ : ∃ x, x = w25.heap.size := ⟨_, rfl⟩
    rw [← hgD] at HD ⊢
    clear hgD
    go_upto_region 13 with (fail)
    refine wp_nm fun w27 hw27 => ?_
    have hb : Below w26.heap.size w26 w27 := by rw [← hw27]; exact kp_alloc (Below.refl _ _) _
    replace HB := Lib.hid (kp_call HB.out hb)
    replace HD := Lib.hid (has_below HD.out hb)
    replace HP := Lib.hid (HP.out.below hb)
    rw [HSE.out]
    clear hw27 hb k1 k2 HSE HK HO
    by_cases h1 : O = sgO
    · have h2 : ¬ O = rsO := by rw [h1]; decide
      rw [show mt1 O = 0 by unfold mt1; rw [if_pos h1], show mt3 O = 9 by unfold mt3; rw [if_neg h2], decide_eq_true h1, decide_eq_false h2]
      clear h1 h2 HP
      go_wp2_with fail
      refine (works12_any _).mono ?_
      rintro e w' ⟨rfl, hb⟩
      have HBE := Lib.hid (kp_call HB.out hb)
      clear hb
      go_wp2
      go_ret
      exact ⟨rfl, HBE.out⟩
    · by_cases h2 : O = rsO
      · obtain ⟨ce, hce, hcn, hcE⟩ := me3_yes k O HOI.out hol h2
        obtain ⟨_, _, _, _, _, nn, _, hD, _, _, _, _, _, hnn, _⟩ := PA.yes HP.out hce
        rw [hcn] at hnn
        have hnl := OwnB.len hnn
        obtain ⟨nA, nL, nC⟩ := nn
        simp only [List.length_cons, List.length_nil] at hnl
        have c17 : w27.cell? ⟨gD, 17, none⟩ = some (.slice nA 1 nC) := by have h9 := HD.out; rw [hD] at h9; rw [Lib.cell_of_heap h9 17]; simp only [← hnl]; rfl
        have c18 : w27.cell? ⟨gD, 18, none⟩ = some (.int .u64 3) := by have h9 := HD.out; rw [hD, hcE] at h9; exact Lib.cell_of_heap h9 18
        rw [show mt1 O = 9 by unfold mt1; rw [if_neg h1], show mt3 O = 0 by unfold mt3; rw [if_pos h2], decide_eq_false h1, decide_eq_true h2]
        clear h1 h2 HP hce hcn hcE hD hnn hnl
        go_wp2_with fail
        refine (works12_any _).mono ?_
        rintro e w' ⟨rfl, hb⟩
        have HBE := Lib.hid (kp_call HB.out hb)
        clear hb
        go_wp2
        go_ret
        exact ⟨rfl, HBE.out⟩
      · rw [show mt1 O = 9 by unfold mt1; rw [if_neg h1], show mt3 O = 9 by unfold mt3; rw [if_neg h2], decide_eq_false h1, decide_eq_false h2]
        clear h1 h2 HP
        go_wp2_with fail
        refine (works12_any _).mono ?_
        rintro e w' ⟨rfl, hb⟩
        have HBE := Lib.hid (kp_call HB.out hb)
        clear hb
        go_wp2
        go_ret
        exact ⟨rfl, HBE.out⟩

end Go.Proofs.Ytomolfdcdmncoaa
