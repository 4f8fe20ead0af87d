/-
  cert: the statement on strange extensions.
-/
import Derived.Test.YtomolfdcdmncoaaCgI
import Derived.Test.YtomolfdcdmncoaaCgH
import Derived.Test.YtomolfdcdmncoaaCfW
namespace Go.Proofs.Ytomolfdcdmncoaa
open Go.RowKit Go
set_option linter.unusedVariables false
set_option linter.unusedSimpArgs false
set_option maxRecDepth 100000

set_option maxHeartbeats 4000000 in
theorem strange_big (k : KC) (A : Option Addr) (n c : Nat) (xs : List Nat) (B : Option Addr) (m q : Nat) (ob : List UInt8) (w : World) (hk : IsKC w k) (hN : IsNsR w A n c xs) (hm : 500 < m) : Calls Try.prog 5 #[k.val, .slice A n c, .slice B m q] w fun e w' => e = .returned (.bool true) ∧ Below w.heap.size w w' := by
  have q1 : decide ((500 : Int) < (m : Int)) = true := decide_eq_true (by omega)
  have HKC := Lib.hid hk
  have HCS := Lib.hid (kc_info k)
  unfold KC.val
  obtain ⟨CC, HCC⟩ : ∃ CC, Hid (k.cells = CC) := ⟨_, Lib.hid rfl⟩
  have ICC : Hid ((Try.prog.info? 28).map (·.size) = some CC.size) := by rw [← HCC.out]; exact Lib.hid (kc_info k)
  clear hk HCS
  rw [HCC.out]
  go_enter Try.func5, Try.ntmps5
  go_upto_region 1 with (fail)
  refine wp_nm fun w0 hw0 => ?_
  have HB := Lib.hid (show Below w.heap.size w w0 by rw [← hw0]; exact kp_alloc (Below.refl _ _) _)
  have HK := Lib.hid (show w0.heap[w.heap.size]? = some (.cells CC 28) by rw [← hw0]; exact has_new _ _)
  clear hw0
  go_wp2_with fail
  refine (strangeR (hN.below HB.out)).mono ?_
  rintro e' w1 ⟨AO, nO, cO, rfl, ho, hb⟩
  have HO := Lib.hid (ho.lower (base' := w.heap.size) HB.out.size)
  replace HB := Lib.hid (kp_call HB.out hb)
  replace HK := Lib.hid (has_below HK.out hb)
  clear ho hb
  go_wp2_with fail
  refine (works12_any _).mono ?_
  rintro e w' ⟨rfl, hb⟩
  have HBE := Lib.hid (kp_call HB.out hb)
  clear hb
  go_wp2
  go_ret
  exact ⟨rfl, HBE.out⟩

set_option maxHeartbeats 32000000 in
theorem strange_go (k : KC) (A : Option Addr) (n c : Nat) (xs : List Nat) (B : Option Addr) (m q : Nat) (ob : List UInt8) (w : World) (hk : IsKC w k) (hN : IsNsR w A n c xs) (hM : RB w B m ob) (hm : m ≤ 500) : Calls Try.prog 5 #[k.val, .slice A n c, .slice B m q] w fun e w' => e = .returned (.bool true) ∧ Below w.heap.size w w' := by
  have q1 : decide ((500 : Int) < (m : Int)) = false := decide_eq_false (by omega)
  have HM := Lib.hid hM
  have hml := hM.1
  have HX0 := Lib.hid (str_one xs hN.lt false ob (by omega))
  have HX1 := Lib.hid (str_one xs hN.lt true ob (by omega))
  have HX2 := Lib.hid (str_two xs hN.lt ob [] (by omega) (by simp))
  have hol := str_fits xs
  clear hM
  have HKC := Lib.hid hk
  have HCS := Lib.hid (kc_info k)
  unfold KC.val
  obtain ⟨CC, HCC⟩ : ∃ CC, Hid (k.cells = CC) := ⟨_, Lib.hid rfl⟩
  have ICC : Hid ((Try.prog.info? 28).map (·.size) = some CC.size) := by rw [← HCC.out]; exact Lib.hid (kc_info k)
  clear hk HCS
  rw [HCC.out]
  go_enter Try.func5, Try.ntmps5
  go_upto_region 1 with (fail)
  refine wp_nm fun w0 hw0 => ?_
  have HB := Lib.hid (show Below w.heap.size w w0 by rw [← hw0]; exact kp_alloc (Below.refl _ _) _)
  have HK := Lib.hid (show w0.heap[w.heap.size]? = some (.cells CC 28) by rw [← hw0]; exact has_new _ _)
  clear hw0
  go_wp2_with fail
  refine (strangeR (hN.below HB.out)).mono ?_
  rintro e' w1 ⟨AO, nO, cO, rfl, ho, hb⟩
  have HO := Lib.hid (ho.lower (base' := w.heap.size) HB.out.size)
  replace HB := Lib.hid (kp_call HB.out hb)
  replace HK := Lib.hid (has_below HK.out hb)
  clear ho hb
  generalize strQ (putoidQ xs) = O at *
  have hnO := HO.out.len
  have l1 := exB_len (O, false, ob) (by simp only; omega) (by simp only; omega)
  have l2 := exB_len (O, true, ob) (by simp only; omega) (by simp only; omega)
  have l3 := exB_len (O, false, []) (by simp only; omega) (by simp)
  simp only [List.length_nil] at l1 l2 l3
  have L1 := Lib.hid (show (exsF [(O, false, ob)]).length ≤ 6200 by have := exsF_one (O, false, ob); omega)
  have L2 := Lib.hid (show (exsF [(O, true, ob)]).length ≤ 6200 by have := exsF_one (O, true, ob); omega)
  have L3 := Lib.hid (show (exsF [(O, false, ob), (O, false, [])]).length ≤ 6200 by simp only [exsF, List.flatMap_cons, List.flatMap_nil, List.append_nil, List.length_append]; omega)
  have F1 : ∀ b, ∀ x ∈ [((O, b, ob) : Ex)], ExFit x := fun b x hx => by rw [List.mem_singleton] at hx; subst hx; exact ⟨by simp only; omega, by simp only; omega⟩
  have F3 : ∀ x ∈ [((O, false, ob) : Ex), (O, false, [])], ExFit x := fun x hx => by
    simp only [List.mem_cons, List.not_mem_nil, or_false] at hx
    rcases hx with rfl | rfl
    · exact ⟨by simp only; omega, by simp only; omega⟩
    · exact ⟨by simp only; omega, by simp⟩
  have HE0 := Lib.hid (xC_er (k := k) (l := []) (fun x hx => by cases hx) (by simp [exsF]) (show exsV [] = some xt0 by unfold exsV; rw [if_pos rfl]))
  have HE1 := Lib.hid (xC_er (k := k) (F1 false) L1.out HX0.out)
  have HE2 := Lib.hid (xC_no (k := k) (F1 true) L2.out HX1.out)
  have HE3 := Lib.hid (xC_no (k := k) F3 L3.out HX2.out)
  have HF1 := Lib.hid (F1 false)
  clear F1 F3 l1 l2 l3 HX1 HX2
  go_upto_region 4 with (fail)
  clear q1
  go_wp2_with (refine wpList_load_row rfl _ _ rfl w.heap.size rfl _ CC _ _ HK.out Try.underlying28 rfl ICC.out ?_)
  rw [← HCC.out]
  refine (withM (base := w.heap.size) (en := 0) (ec := 0) HKC.out HB.out (exl := []) [] ⟨by simpa using ReadR.nil, all0R⟩ rfl rfl (by omega) (by simp [exsF]) HB.out.size).mono ?_
  rw [HCC.out]
  rintro e' w2 ⟨_, rfl, hb, AC, nC, cC, rfl, ho⟩
  have HC := Lib.hid ho
  replace HB := Lib.hid (kp_call HB.out hb)
  replace HK := Lib.hid (has_below HK.out hb)
  replace HO := Lib.hid (HO.out.below hb (Nat.le_refl _))
  clear ho hb
  go_wp2_with fail
  refine (parse9_any AC nC cC (xC k []) w2 HC.out.rb HC.out.cap.1 HC.out.cap.2 (by rw [← HC.out.len]; exact Nat.le_trans (xC_len k [] (by simp [exsF])) (by omega))).mono ?_
  rintro e' w3 ⟨D0, rfl, hp, hb⟩
  have HS := Lib.hid hp.size
  have ID0 := Lib.hid (info24 hp.size.1)
  have HP0 := Lib.hid (hp.lower HB.out.size)
  rw [HE0.out]
  replace HB := Lib.hid (kp_call HB.out hb)
  replace HK := Lib.hid (has_below HK.out hb)
  replace HO := Lib.hid (HO.out.below hb (Nat.le_refl _))
  clear hp hb HC
  go_upto_region 5 with (refine wpList_store_row rfl _ _ _ rfl w3.heap.size D0 rfl rfl _ _ (has_new w3 _) ID0.out (by rw [HS.out.1]; rfl) HS.out.2 ?_)
  refine wp_nm fun w4 hw4 => ?_
  have HD0 := Lib.hid (show w4.heap[w3.heap.size]? = some (.cells D0 33) by rw [← hw4]; exact setRow_heap _ _ _ _ _ _ (has_new w3 _))
  have hb : Below w3.heap.size w3 w4 := by rw [← hw4]; exact below_setRow (kp_alloc (Below.refl _ _) _) (Nat.le_refl _) _
  replace HB := Lib.hid (kp_call HB.out hb)
  replace HK := Lib.hid (has_below HK.out hb)
  replace HO := Lib.hid (HO.out.below hb (Nat.le_refl _))
  replace HP0 := Lib.hid (HP0.out.below hb)
  obtain ⟨G0, hG0⟩ : ∃ x, x = w3.heap.size := ⟨_, rfl⟩
  have HG0 := Lib.hid hG0
  rw [← hG0] at HD0 ⊢
  clear hw4 hb hG0 HS
  have HLT := Lib.hid (block_lt HD0.out)
  have HW4 := Lib.hid HB.out.size
  refine wp_region_monoS (by kernel_rfl) (by kernel_rfl) [29, 30, 31, 32, 33, 34, 35, 28, 36, 37, 10] (by rfl) (by rfl) (by decide) (by rfl) (fun j => ([MR.eq (.agg CC), MR.eq (.slice AO nO cO), MR.eq (.slice B m q), MR.own (w.heap.size) (exB (O, false, ob)), MR.rows [exB (O, false, ob)], MR.own (w.heap.size) (xC k [(O, false, ob)]), MR.par (w.heap.size) (xC k [(O, false, ob)]), MR.par (w.heap.size) (xC k [(O, false, ob)]), MR.par0 (w.heap.size) (xC k [(O, false, ob)]), MR.eq (.int .i64 (erQ (xC k [(O, false, ob)]) : Int)), MR.fresh0 (w4.heap.size)] : List MR).getD j MR.any) [] [[], [], [], [1, 2], [1, 2, 3], [0, 1, 2, 3, 4], [0, 1, 2, 3, 4, 5], [0, 1, 2, 3, 4, 5, 6], [0, 1, 2, 3, 4, 5, 6, 7], [0, 1, 2, 3, 4, 5, 6, 7], [], [0, 1, 2, 3, 4, 5, 6, 7, 8, 10], [0, 1, 2, 3, 4, 5, 6, 7, 8, 9, 10, 11]] (by kernel_rfl) (by kernel_rfl) 9 (by decide) (by kernel_rfl) (by kernel_rfl) _ (by rfl) _ 10 36 (by rfl) (by rfl) (by rfl) (by decide) (by decide) _ (by rfl) (by rfl) ?_ (by rfl) ?_ ?_
  · intro ρ W E
    obtain ⟨D28, e28, P28⟩ : (MR.par (w.heap.size) (xC k [(O, false, ob)])).p (ρ (.tmp 28)) W := E.dep 7 (by kernel_rfl)
    exact ⟨_, pure_extract rfl e28 (fun _ => by kernel_rfl), rfl⟩
  · intro i hi ρ W E
    simp only [List.length_cons, List.length_nil] at hi
    have hbW : w.heap.size ≤ W.heap.size := Nat.le_trans HB.out.size E.up.size
    rcases (show i = 0 ∨ i = 1 ∨ i = 2 ∨ i = 3 ∨ i = 4 ∨ i = 5 ∨ i = 6 ∨ i = 7 ∨ i = 8 ∨ i = 9 ∨ i = 10 by omega) with rfl | rfl | rfl | rfl | rfl | rfl | rfl | rfl | rfl | rfl | rfl
    · -- 0: load 28 t3
      refine mono_at (by rfl) rfl ?_
      have e3 : ρ (.tmp 3) = .pointer (some ⟨w.heap.size, 0, none⟩) := E.old 3 rfl
      exact mo_loadr rfl e3 (has_below HK.out E.up) Try.underlying28 rfl ICC.out ⟨Below.refl _ _, rfl⟩
    · -- 1: move t7
      refine mono_at (by rfl) rfl ?_
      have e7 : ρ (.tmp 7) = .slice AO nO cO := E.old 7 rfl
      exact mo_move rfl ⟨Below.refl _ _, e7⟩
    · -- 2: move t2
      refine mono_at (by rfl) rfl ?_
      have e2 : ρ (.tmp 2) = .slice B m q := E.old 2 rfl
      exact mo_move rfl ⟨Below.refl _ _, e2⟩
    · -- 3: call { value (Operand.func 25), args := #[t30, const (Value.
      refine mono_at (by rfl) rfl ?_
      have e30 : ρ (.tmp 30) = .slice AO nO cO := E.dep 1 (by kernel_rfl)
      have e31 : ρ (.tmp 31) = .slice B m q := E.dep 2 (by kernel_rfl)
      refine mo_call rfl (E.fn _) (fun _ _ => by kernel_rfl) (args := #[.slice AO nO cO, Value.bool false, .slice B m q]) (by simp only [List.map_toArray, List.map_cons, List.map_nil, List.length_cons, List.length_nil, Nat.reduceAdd, E.cst, e30, e31]) ?_
      exact extM false (HO.out.rb.below E.up) (HM.out.below (HB.out.trans (E.up.mono HB.out.size))) (by omega) (by omega) hbW
    · -- 4: buildSlice 56 1 #[(0, t32)]
      refine mono_at (by rfl) rfl ?_
      obtain ⟨A32, n32, c32, e32, o32⟩ : (MR.own (w.heap.size) (exB (O, false, ob))).p (ρ (.tmp 32)) W := E.dep 3 (by kernel_rfl)
      exact mo_rows [(A32, n32, c32, exB (O, false, ob))] 1 rfl (vs := [(0, .slice A32 n32 c32)]) (by simp only [List.map_toArray, List.map_cons, List.map_nil, E.cst, e32]) (by kernel_rfl) rfl (by omega) (by omega) (all1R o32.rb all0R)
    · -- 5: call { value (Operand.func 24), args := #[t29, t33], argType
      refine mono_at (by rfl) rfl ?_
      have e29 : ρ (.tmp 29) = .agg CC := E.dep 0 (by kernel_rfl)
      obtain ⟨A33, l33, e33, r33, m33⟩ : (MR.rows [exB (O, false, ob)]).p (ρ (.tmp 33)) W := E.dep 4 (by kernel_rfl)
      refine mo_call rfl (E.fn _) (fun _ _ => by kernel_rfl) (args := #[.agg CC, .slice A33 1 1]) (by simp only [List.map_toArray, List.map_cons, List.map_nil, List.length_cons, List.length_nil, Nat.reduceAdd, E.cst, e29, e33]) ?_
      rw [← HCC.out]
      exact withM HKC.out (HB.out.trans (E.up.mono HB.out.size)) [(O, false, ob)] r33 m33 rfl (by omega) (Nat.le_trans L1.out (by omega)) hbW
    · -- 6: call { value (Operand.func 15), args := #[t34], argTypes := 
      refine mono_at (by rfl) rfl ?_
      obtain ⟨A34, n34, c34, e34, o34⟩ : (MR.own (w.heap.size) (xC k [(O, false, ob)])).p (ρ (.tmp 34)) W := E.dep 5 (by kernel_rfl)
      refine mo_call rfl (E.fn _) (fun _ _ => by kernel_rfl) (args := #[.slice A34 n34 c34]) (by simp only [List.map_toArray, List.map_cons, List.map_nil, List.length_cons, List.length_nil, Nat.reduceAdd, E.cst, e34]) ?_
      exact parM o34.rb o34.cap.1 o34.cap.2 (Nat.le_trans (xC_len k [(O, false, ob)] L1.out) (by omega)) hbW
    · -- 7: move t35
      refine mono_at (by rfl) rfl ?_
      obtain ⟨D35, e35, P35⟩ : (MR.par (w.heap.size) (xC k [(O, false, ob)])).p (ρ (.tmp 35)) W := E.dep 6 (by kernel_rfl)
      exact mo_move rfl ⟨Below.refl _ _, E.dep 6 (by kernel_rfl)⟩
    · -- 8: extract t28 0
      refine mono_at (by rfl) rfl ?_
      obtain ⟨D28, e28, P28⟩ : (MR.par (w.heap.size) (xC k [(O, false, ob)])).p (ρ (.tmp 28)) W := E.dep 7 (by kernel_rfl)
      exact mo_extract rfl e28 (by kernel_rfl) ⟨Below.refl _ _, _, rfl, P28⟩
    · -- 9: extract t28 1
      refine mono_at (by rfl) rfl ?_
      obtain ⟨D28, e28, P28⟩ : (MR.par (w.heap.size) (xC k [(O, false, ob)])).p (ρ (.tmp 28)) W := E.dep 7 (by kernel_rfl)
      exact mo_extract rfl e28 (by kernel_rfl) ⟨Below.refl _ _, rfl⟩
    · -- 10: alloc 33
      refine mono_at (by rfl) rfl ?_
      exact mo_alloc rfl run_alloc0 ⟨kp_alloc (Below.refl _ _) _, _, rfl, E.up.size, has_new _ _⟩
  · intro u W hbU hR
    obtain ⟨Du36, eu36, Pu36⟩ : (MR.par0 (w.heap.size) (xC k [(O, false, ob)])).p (u 8) W := hR 8 (by decide)
    have hu37 : u 9 = .int .i64 (erQ (xC k [(O, false, ob)]) : Int) := hR 9 (by decide)
    obtain ⟨gu10, eu10, Lu10, Zu10⟩ : (MR.fresh0 (w4.heap.size)).p (u 10) W := hR 10 (by decide)
    clear hR
    simp only [lay, Nat.reduceAdd, List.setIfInBounds_toArray, List.set_cons_zero, List.set_cons_succ]
    refine ⟨_, (by show (Instr.storeAt _ (u 10) (u 8)).run _ W = _; rw [eu10, eu36]; exact run_storeAt_row9 W gu10 _ _ _ Du36 Zu10 (info24 Pu36.size.1) (by rw [Pu36.size.1]; rfl) Pu36.size.2), wpOp_val (v := u 9) (by rfl) rfl (by rfl) ?_⟩
    dsimp only [Act.put]
    simp only [List.setIfInBounds_toArray, List.set_cons_zero, List.set_cons_succ, eu36, hu37, eu10]
    clear eu36 hu37 eu10
    have HZ := Lib.hid Zu10
    have hgL := Lu10
    have HPq := Lib.hid Pu36
    have IDq := Lib.hid (info24 Pu36.size.1)
    clear Zu10 Pu36
    go_upto_region 6 with (fail)
    try go_simp
    refine wp_nm fun w5 hww5 => ?_
    have HG : Hid (W.grownBy w5 (some gu10)) := by rw [← hww5]; exact Lib.hid (grown_row ..)
    have HD1 := Lib.hid (show w5.heap[gu10]? = some (.cells Du36 33) by rw [← hww5]; exact setRow_heap _ _ _ _ _ _ HZ.out)
    have hbn : Below w4.heap.size w4 w5 := hbU.grown HG.out hbU.size (fun k hk => by injection hk with hk; omega)
    have HP1 := Lib.hid (HPq.out.keptC HG.out HZ.out)
    replace HB := Lib.hid (kp_call HB.out hbn)
    replace HK := Lib.hid (has_below HK.out hbn)
    replace HO := Lib.hid (HO.out.below hbn (Nat.le_refl _))
    replace HP0 := Lib.hid (HP0.out.below hbn)
    replace HD0 := Lib.hid (has_below HD0.out hbn)
    obtain ⟨G1, rfl⟩ : ∃ x, x = gu10 := ⟨_, rfl⟩
    obtain ⟨D1, rfl⟩ : ∃ x, x = Du36 := ⟨_, rfl⟩
    have ID1 := IDq
    have G1L := Lib.hid hgL
    clear hww5 HG HZ HPq hbU hgL Lu10 IDq hbn
    refine wp_region_monoS (by kernel_rfl) (by kernel_rfl) [39, 40, 41, 42, 43, 44, 45, 38, 46, 47, 12] (by rfl) (by rfl) (by decide) (by rfl) (fun j => ([MR.eq (.agg CC), MR.eq (.slice AO nO cO), MR.eq (.slice B m q), MR.own (w.heap.size) (exB (O, true, ob)), MR.rows [exB (O, true, ob)], MR.own (w.heap.size) (xC k [(O, true, ob)]), MR.par (w.heap.size) (xC k [(O, true, ob)]), MR.par (w.heap.size) (xC k [(O, true, ob)]), MR.par0 (w.heap.size) (xC k [(O, true, ob)]), MR.eq (.int .i64 (erQ (xC k [(O, true, ob)]) : Int)), MR.fresh0 (w5.heap.size)] : List MR).getD j MR.any) [] [[], [], [], [1, 2], [1, 2, 3], [0, 1, 2, 3, 4], [0, 1, 2, 3, 4, 5], [0, 1, 2, 3, 4, 5, 6], [0, 1, 2, 3, 4, 5, 6, 7], [0, 1, 2, 3, 4, 5, 6, 7], [], [0, 1, 2, 3, 4, 5, 6, 7, 8, 10], [0, 1, 2, 3, 4, 5, 6, 7, 8, 9, 10, 11]] (by kernel_rfl) (by kernel_rfl) 9 (by decide) (by kernel_rfl) (by kernel_rfl) _ (by rfl) _ 12 46 (by rfl) (by rfl) (by rfl) (by decide) (by decide) _ (by rfl) (by rfl) ?_ (by rfl) ?_ ?_
    · intro ρ W E
      obtain ⟨D38, e38, P38⟩ : (MR.par (w.heap.size) (xC k [(O, true, ob)])).p (ρ (.tmp 38)) W := E.dep 7 (by kernel_rfl)
      exact ⟨_, pure_extract rfl e38 (fun _ => by kernel_rfl), rfl⟩
    · intro i hi ρ W E
      simp only [List.length_cons, List.length_nil] at hi
      have hbW : w.heap.size ≤ W.heap.size := Nat.le_trans HB.out.size E.up.size
      rcases (show i = 0 ∨ i = 1 ∨ i = 2 ∨ i = 3 ∨ i = 4 ∨ i = 5 ∨ i = 6 ∨ i = 7 ∨ i = 8 ∨ i = 9 ∨ i = 10 by omega) with rfl | rfl | rfl | rfl | rfl | rfl | rfl | rfl | rfl | rfl | rfl
      · -- 0: load 28 t3
        refine mono_at (by rfl) rfl ?_
        have e3 : ρ (.tmp 3) = .pointer (some ⟨w.heap.size, 0, none⟩) := E.old 3 rfl
        exact mo_loadr rfl e3 (has_below HK.out E.up) Try.underlying28 rfl ICC.out ⟨Below.refl _ _, rfl⟩
      · -- 1: move t7
        refine mono_at (by rfl) rfl ?_
        have e7 : ρ (.tmp 7) = .slice AO nO cO := E.old 7 rfl
        exact mo_move rfl ⟨Below.refl _ _, e7⟩
      · -- 2: move t2
        refine mono_at (by rfl) rfl ?_
        have e2 : ρ (.tmp 2) = .slice B m q := E.old 2 rfl
        exact mo_move rfl ⟨Below.refl _ _, e2⟩
      · -- 3: call { value (Operand.func 25), args := #[t40, const (Value.
        refine mono_at (by rfl) rfl ?_
        have e40 : ρ (.tmp 40) = .slice AO nO cO := E.dep 1 (by kernel_rfl)
        have e41 : ρ (.tmp 41) = .slice B m q := E.dep 2 (by kernel_rfl)
        refine mo_call rfl (E.fn _) (fun _ _ => by kernel_rfl) (args := #[.slice AO nO cO, Value.bool true, .slice B m q]) (by simp only [List.map_toArray, List.map_cons, List.map_nil, List.length_cons, List.length_nil, Nat.reduceAdd, E.cst, e40, e41]) ?_
        exact extM true (HO.out.rb.below E.up) (HM.out.below (HB.out.trans (E.up.mono HB.out.size))) (by omega) (by omega) hbW
      · -- 4: buildSlice 56 1 #[(0, t42)]
        refine mono_at (by rfl) rfl ?_
        obtain ⟨A42, n42, c42, e42, o42⟩ : (MR.own (w.heap.size) (exB (O, true, ob))).p (ρ (.tmp 42)) W := E.dep 3 (by kernel_rfl)
        exact mo_rows [(A42, n42, c42, exB (O, true, ob))] 1 rfl (vs := [(0, .slice A42 n42 c42)]) (by simp only [List.map_toArray, List.map_cons, List.map_nil, E.cst, e42]) (by kernel_rfl) rfl (by omega) (by omega) (all1R o42.rb all0R)
      · -- 5: call { value (Operand.func 24), args := #[t39, t43], argType
        refine mono_at (by rfl) rfl ?_
        have e39 : ρ (.tmp 39) = .agg CC := E.dep 0 (by kernel_rfl)
        obtain ⟨A43, l43, e43, r43, m43⟩ : (MR.rows [exB (O, true, ob)]).p (ρ (.tmp 43)) W := E.dep 4 (by kernel_rfl)
        refine mo_call rfl (E.fn _) (fun _ _ => by kernel_rfl) (args := #[.agg CC, .slice A43 1 1]) (by simp only [List.map_toArray, List.map_cons, List.map_nil, List.length_cons, List.length_nil, Nat.reduceAdd, E.cst, e39, e43]) ?_
        rw [← HCC.out]
        exact withM HKC.out (HB.out.trans (E.up.mono HB.out.size)) [(O, true, ob)] r43 m43 rfl (by omega) (Nat.le_trans L2.out (by omega)) hbW
      · -- 6: call { value (Operand.func 15), args := #[t44], argTypes := 
        refine mono_at (by rfl) rfl ?_
        obtain ⟨A44, n44, c44, e44, o44⟩ : (MR.own (w.heap.size) (xC k [(O, true, ob)])).p (ρ (.tmp 44)) W := E.dep 5 (by kernel_rfl)
        refine mo_call rfl (E.fn _) (fun _ _ => by kernel_rfl) (args := #[.slice A44 n44 c44]) (by simp only [List.map_toArray, List.map_cons, List.map_nil, List.length_cons, List.length_nil, Nat.reduceAdd, E.cst, e44]) ?_
        exact parM o44.rb o44.cap.1 o44.cap.2 (Nat.le_trans (xC_len k [(O, true, ob)] L2.out) (by omega)) hbW
      · -- 7: move t45
        refine mono_at (by rfl) rfl ?_
        obtain ⟨D45, e45, P45⟩ : (MR.par (w.heap.size) (xC k [(O, true, ob)])).p (ρ (.tmp 45)) W := E.dep 6 (by kernel_rfl)
        exact mo_move rfl ⟨Below.refl _ _, E.dep 6 (by kernel_rfl)⟩
      · -- 8: extract t38 0
        refine mono_at (by rfl) rfl ?_
        obtain ⟨D38, e38, P38⟩ : (MR.par (w.heap.size) (xC k [(O, true, ob)])).p (ρ (.tmp 38)) W := E.dep 7 (by kernel_rfl)
        exact mo_extract rfl e38 (by kernel_rfl) ⟨Below.refl _ _, _, rfl, P38⟩
      · -- 9: extract t38 1
        refine mono_at (by rfl) rfl ?_
        obtain ⟨D38, e38, P38⟩ : (MR.par (w.heap.size) (xC k [(O, true, ob)])).p (ρ (.tmp 38)) W := E.dep 7 (by kernel_rfl)
        exact mo_extract rfl e38 (by kernel_rfl) ⟨Below.refl _ _, rfl⟩
      · -- 10: alloc 33
        refine mono_at (by rfl) rfl ?_
        exact mo_alloc rfl run_alloc0 ⟨kp_alloc (Below.refl _ _) _, _, rfl, E.up.size, has_new _ _⟩
    · intro u W hbU hR
      obtain ⟨Du46, eu46, Pu46⟩ : (MR.par0 (w.heap.size) (xC k [(O, true, ob)])).p (u 8) W := hR 8 (by decide)
      have hu47 : u 9 = .int .i64 (erQ (xC k [(O, true, ob)]) : Int) := hR 9 (by decide)
      obtain ⟨gu12, eu12, Lu12, Zu12⟩ : (MR.fresh0 (w5.heap.size)).p (u 10) W := hR 10 (by decide)
      clear hR
      simp only [lay, Nat.reduceAdd, List.setIfInBounds_toArray, List.set_cons_zero, List.set_cons_succ]
      refine ⟨_, (by show (Instr.storeAt _ (u 10) (u 8)).run _ W = _; rw [eu12, eu46]; exact run_storeAt_row9 W gu12 _ _ _ Du46 Zu12 (info24 Pu46.size.1) (by rw [Pu46.size.1]; rfl) Pu46.size.2), wpOp_val (v := u 9) (by rfl) rfl (by rfl) ?_⟩
      dsimp only [Act.put]
      simp only [List.setIfInBounds_toArray, List.set_cons_zero, List.set_cons_succ, eu46, hu47, eu12]
      clear eu46 hu47 eu12
      have HZ := Lib.hid Zu12
      have hgL := Lu12
      have HPq := Lib.hid Pu46
      have IDq := Lib.hid (info24 Pu46.size.1)
      clear Zu12 Pu46
      go_upto_region 7 with (fail)
      try go_simp
      refine wp_nm fun w6 hww6 => ?_
      have HG : Hid (W.grownBy w6 (some gu12)) := by rw [← hww6]; exact Lib.hid (grown_row ..)
      have HD2 := Lib.hid (show w6.heap[gu12]? = some (.cells Du46 33) by rw [← hww6]; exact setRow_heap _ _ _ _ _ _ HZ.out)
      have hbn : Below w5.heap.size w5 w6 := hbU.grown HG.out hbU.size (fun k hk => by injection hk with hk; omega)
      have HP2 := Lib.hid (HPq.out.keptC HG.out HZ.out)
      replace HB := Lib.hid (kp_call HB.out hbn)
      replace HK := Lib.hid (has_below HK.out hbn)
      replace HO := Lib.hid (HO.out.below hbn (Nat.le_refl _))
      replace HP0 := Lib.hid (HP0.out.below hbn)
      replace HD0 := Lib.hid (has_below HD0.out hbn)
      replace HD1 := Lib.hid (has_below HD1.out hbn)
      replace HP1 := Lib.hid (HP1.out.below hbn)
      obtain ⟨G2, rfl⟩ : ∃ x, x = gu12 := ⟨_, rfl⟩
      obtain ⟨D2, rfl⟩ : ∃ x, x = Du46 := ⟨_, rfl⟩
      have ID2 := IDq
      have G2L := Lib.hid hgL
      clear hww6 HG HZ HPq hbU hgL Lu12 IDq hbn
      clear HP2 HD2
      refine wp_region_monoS (by kernel_rfl) (by kernel_rfl) [49, 50, 51, 52, 53, 54, 55, 56, 57, 48, 58, 59, 14] (by rfl) (by rfl) (by decide) (by rfl) (fun j => ([MR.eq (.agg CC), MR.eq (.slice AO nO cO), MR.eq (.slice B m q), MR.own (w.heap.size) (exB (O, false, ob)), MR.eq (.slice AO nO cO), MR.own (w.heap.size) (exB (O, false, [])), MR.rows [exB (O, false, ob), exB (O, false, [])], MR.own (w.heap.size) (xC k [(O, false, ob), (O, false, [])]), MR.par (w.heap.size) (xC k [(O, false, ob), (O, false, [])]), MR.par (w.heap.size) (xC k [(O, false, ob), (O, false, [])]), MR.par0 (w.heap.size) (xC k [(O, false, ob), (O, false, [])]), MR.eq (.int .i64 (erQ (xC k [(O, false, ob), (O, false, [])]) : Int)), MR.fresh0 (w6.heap.size)] : List MR).getD j MR.any) [] [[], [], [], [1, 2], [], [4], [1, 2, 3, 4, 5], [0, 1, 2, 3, 4, 5, 6], [0, 1, 2, 3, 4, 5, 6, 7], [0, 1, 2, 3, 4, 5, 6, 7, 8], [0, 1, 2, 3, 4, 5, 6, 7, 8, 9], [0, 1, 2, 3, 4, 5, 6, 7, 8, 9], [], [0, 1, 2, 3, 4, 5, 6, 7, 8, 9, 10, 12], [0, 1, 2, 3, 4, 5, 6, 7, 8, 9, 10, 11, 12, 13]] (by kernel_rfl) (by kernel_rfl) 11 (by decide) (by kernel_rfl) (by kernel_rfl) _ (by rfl) _ 14 58 (by rfl) (by rfl) (by rfl) (by decide) (by decide) _ (by rfl) (by rfl) ?_ (by rfl) ?_ ?_
      · intro ρ W E
        obtain ⟨D48, e48, P48⟩ : (MR.par (w.heap.size) (xC k [(O, false, ob), (O, false, [])])).p (ρ (.tmp 48)) W := E.dep 9 (by kernel_rfl)
        exact ⟨_, pure_extract rfl e48 (fun _ => by kernel_rfl), rfl⟩
      · intro i hi ρ W E
        simp only [List.length_cons, List.length_nil] at hi
        have hbW : w.heap.size ≤ W.heap.size := Nat.le_trans HB.out.size E.up.size
        rcases (show i = 0 ∨ i = 1 ∨ i = 2 ∨ i = 3 ∨ i = 4 ∨ i = 5 ∨ i = 6 ∨ i = 7 ∨ i = 8 ∨ i = 9 ∨ i = 10 ∨ i = 11 ∨ i = 12 by omega) with rfl | rfl | rfl | rfl | rfl | rfl | rfl | rfl | rfl | rfl | rfl | rfl | rfl
        · -- 0: load 28 t3
          refine mono_at (by rfl) rfl ?_
          have e3 : ρ (.tmp 3) = .pointer (some ⟨w.heap.size, 0, none⟩) := E.old 3 rfl
          exact mo_loadr rfl e3 (has_below HK.out E.up) Try.underlying28 rfl ICC.out ⟨Below.refl _ _, rfl⟩
        · -- 1: move t7
          refine mono_at (by rfl) rfl ?_
          have e7 : ρ (.tmp 7) = .slice AO nO cO := E.old 7 rfl
          exact mo_move rfl ⟨Below.refl _ _, e7⟩
        · -- 2: move t2
          refine mono_at (by rfl) rfl ?_
          have e2 : ρ (.tmp 2) = .slice B m q := E.old 2 rfl
          exact mo_move rfl ⟨Below.refl _ _, e2⟩
        · -- 3: call { value (Operand.func 25), args := #[t50, const (Value.
          refine mono_at (by rfl) rfl ?_
          have e50 : ρ (.tmp 50) = .slice AO nO cO := E.dep 1 (by kernel_rfl)
          have e51 : ρ (.tmp 51) = .slice B m q := E.dep 2 (by kernel_rfl)
          refine mo_call rfl (E.fn _) (fun _ _ => by kernel_rfl) (args := #[.slice AO nO cO, Value.bool false, .slice B m q]) (by simp only [List.map_toArray, List.map_cons, List.map_nil, List.length_cons, List.length_nil, Nat.reduceAdd, E.cst, e50, e51]) ?_
          exact extM false (HO.out.rb.below E.up) (HM.out.below (HB.out.trans (E.up.mono HB.out.size))) (by omega) (by omega) hbW
        · -- 4: move t7
          refine mono_at (by rfl) rfl ?_
          have e7 : ρ (.tmp 7) = .slice AO nO cO := E.old 7 rfl
          exact mo_move rfl ⟨Below.refl _ _, e7⟩
        · -- 5: call { value (Operand.func 25), args := #[t53, const (Value.
          refine mono_at (by rfl) rfl ?_
          have e53 : ρ (.tmp 53) = .slice AO nO cO := E.dep 4 (by kernel_rfl)
          refine mo_call rfl (E.fn _) (fun _ _ => by kernel_rfl) (args := #[.slice AO nO cO, Value.bool false, Value.slice none 0 0]) (by simp only [List.map_toArray, List.map_cons, List.map_nil, List.length_cons, List.length_nil, Nat.reduceAdd, E.cst, e53]) ?_
          exact extM false (HO.out.rb.below E.up) (rb_none W) (by omega) (by omega) hbW
        · -- 6: buildSlice 56 2 #[(0, t52), (1, t54)]
          refine mono_at (by rfl) rfl ?_
          obtain ⟨A52, n52, c52, e52, o52⟩ : (MR.own (w.heap.size) (exB (O, false, ob))).p (ρ (.tmp 52)) W := E.dep 3 (by kernel_rfl)
          obtain ⟨A54, n54, c54, e54, o54⟩ : (MR.own (w.heap.size) (exB (O, false, []))).p (ρ (.tmp 54)) W := E.dep 5 (by kernel_rfl)
          exact mo_rows [(A52, n52, c52, exB (O, false, ob)), (A54, n54, c54, exB (O, false, []))] 2 rfl (vs := [(0, .slice A52 n52 c52), (1, .slice A54 n54 c54)]) (by simp only [List.map_toArray, List.map_cons, List.map_nil, E.cst, e52, e54]) (by kernel_rfl) rfl (by omega) (by omega) (all1R o52.rb (all1R o54.rb all0R))
        · -- 7: call { value (Operand.func 24), args := #[t49, t55], argType
          refine mono_at (by rfl) rfl ?_
          have e49 : ρ (.tmp 49) = .agg CC := E.dep 0 (by kernel_rfl)
          obtain ⟨A55, l55, e55, r55, m55⟩ : (MR.rows [exB (O, false, ob), exB (O, false, [])]).p (ρ (.tmp 55)) W := E.dep 6 (by kernel_rfl)
          refine mo_call rfl (E.fn _) (fun _ _ => by kernel_rfl) (args := #[.agg CC, .slice A55 2 2]) (by simp only [List.map_toArray, List.map_cons, List.map_nil, List.length_cons, List.length_nil, Nat.reduceAdd, E.cst, e49, e55]) ?_
          rw [← HCC.out]
          exact withM HKC.out (HB.out.trans (E.up.mono HB.out.size)) [(O, false, ob), (O, false, [])] r55 m55 rfl (by omega) (Nat.le_trans L3.out (by omega)) hbW
        · -- 8: call { value (Operand.func 15), args := #[t56], argTypes := 
          refine mono_at (by rfl) rfl ?_
          obtain ⟨A56, n56, c56, e56, o56⟩ : (MR.own (w.heap.size) (xC k [(O, false, ob), (O, false, [])])).p (ρ (.tmp 56)) W := E.dep 7 (by kernel_rfl)
          refine mo_call rfl (E.fn _) (fun _ _ => by kernel_rfl) (args := #[.slice A56 n56 c56]) (by simp only [List.map_toArray, List.map_cons, List.map_nil, List.length_cons, List.length_nil, Nat.reduceAdd, E.cst, e56]) ?_
          exact parM o56.rb o56.cap.1 o56.cap.2 (Nat.le_trans (xC_len k [(O, false, ob), (O, false, [])] L3.out) (by omega)) hbW
        · -- 9: move t57
          refine mono_at (by rfl) rfl ?_
          obtain ⟨D57, e57, P57⟩ : (MR.par (w.heap.size) (xC k [(O, false, ob), (O, false, [])])).p (ρ (.tmp 57)) W := E.dep 8 (by kernel_rfl)
          exact mo_move rfl ⟨Below.refl _ _, E.dep 8 (by kernel_rfl)⟩
        · -- 10: extract t48 0
          refine mono_at (by rfl) rfl ?_
          obtain ⟨D48, e48, P48⟩ : (MR.par (w.heap.size) (xC k [(O, false, ob), (O, false, [])])).p (ρ (.tmp 48)) W := E.dep 9 (by kernel_rfl)
          exact mo_extract rfl e48 (by kernel_rfl) ⟨Below.refl _ _, _, rfl, P48⟩
        · -- 11: extract t48 1
          refine mono_at (by rfl) rfl ?_
          obtain ⟨D48, e48, P48⟩ : (MR.par (w.heap.size) (xC k [(O, false, ob), (O, false, [])])).p (ρ (.tmp 48)) W := E.dep 9 (by kernel_rfl)
          exact mo_extract rfl e48 (by kernel_rfl) ⟨Below.refl _ _, rfl⟩
        · -- 12: alloc 33
          refine mono_at (by rfl) rfl ?_
          exact mo_alloc rfl run_alloc0 ⟨kp_alloc (Below.refl _ _) _, _, rfl, E.up.size, has_new _ _⟩
      · intro u W hbU hR
        obtain ⟨Du58, eu58, Pu58⟩ : (MR.par0 (w.heap.size) (xC k [(O, false, ob), (O, false, [])])).p (u 10) W := hR 10 (by decide)
        have hu59 : u 11 = .int .i64 (erQ (xC k [(O, false, ob), (O, false, [])]) : Int) := hR 11 (by decide)
        obtain ⟨gu14, eu14, Lu14, Zu14⟩ : (MR.fresh0 (w6.heap.size)).p (u 12) W := hR 12 (by decide)
        clear hR
        simp only [lay, Nat.reduceAdd, List.setIfInBounds_toArray, List.set_cons_zero, List.set_cons_succ]
        refine ⟨_, (by show (Instr.storeAt _ (u 12) (u 10)).run _ W = _; rw [eu14, eu58]; exact run_storeAt_row9 W gu14 _ _ _ Du58 Zu14 (info24 Pu58.size.1) (by rw [Pu58.size.1]; rfl) Pu58.size.2), wpOp_val (v := u 11) (by rfl) rfl (by rfl) ?_⟩
        dsimp only [Act.put]
        simp only [List.setIfInBounds_toArray, List.set_cons_zero, List.set_cons_succ, eu58, hu59, eu14]
        clear eu58 hu59 eu14
        have HZ := Lib.hid Zu14
        have hgL := Lu14
        have HPq := Lib.hid Pu58
        have IDq := Lib.hid (info24 Pu58.size.1)
        clear Zu14 Pu58
        go_upto_region 8 with (fail)
        try go_simp
        refine wp_nm fun w7 hww7 => ?_
        have HG : Hid (W.grownBy w7 (some gu14)) := by rw [← hww7]; exact Lib.hid (grown_row ..)
        have HD3 := Lib.hid (show w7.heap[gu14]? = some (.cells Du58 33) by rw [← hww7]; exact setRow_heap _ _ _ _ _ _ HZ.out)
        have hbn : Below w6.heap.size w6 w7 := hbU.grown HG.out hbU.size (fun k hk => by injection hk with hk; omega)
        have HP3 := Lib.hid (HPq.out.keptC HG.out HZ.out)
        replace HB := Lib.hid (kp_call HB.out hbn)
        replace HK := Lib.hid (has_below HK.out hbn)
        replace HO := Lib.hid (HO.out.below hbn (Nat.le_refl _))
        replace HP0 := Lib.hid (HP0.out.below hbn)
        replace HD0 := Lib.hid (has_below HD0.out hbn)
        replace HD1 := Lib.hid (has_below HD1.out hbn)
        replace HP1 := Lib.hid (HP1.out.below hbn)
        obtain ⟨G3, rfl⟩ : ∃ x, x = gu14 := ⟨_, rfl⟩
        obtain ⟨D3, rfl⟩ : ∃ x, x = Du58 := ⟨_, rfl⟩
        have ID3 := IDq
        have G3L := Lib.hid hgL
        clear hww7 HG HZ HPq hbU hgL Lu14 IDq hbn
        clear HP3 HD3
        rw [HE1.out, HE2.out, HE3.out]
        clear HE0 HE1 HE2 HE3 HO HM
        obtain ⟨raw0, tbs0, iss0, sub0, ser0, n0, sig0, hD0, hS0⟩ := HP0.out.ceX (fun x hx => by cases hx) (by simp [exsF]) xt0 (by unfold exsV; rw [if_pos rfl])
        obtain ⟨raw1, tbs1, iss1, sub1, ser1, n1, sig1, hD1, hS1⟩ := HP1.out.ceX HF1.out L1.out xt0 HX0.out
        have HS0 := Lib.hid hS0
        have HS1 := Lib.hid hS1
        rw [hD0] at HD0 ID0
        rw [hD1] at HD1
        clear hD0 hD1 hS0 hS1 HP0 HP1 L1 L2 L3 HF1 HX0 ID1 ID2 ID3
        have hne : G0 ≠ G1 := by have h1 := HLT.out; have h2 := G1L.out; omega
        have HGB := Lib.hid (Nat.le_trans HW4.out G1L.out)
        have a0 : w7.cell? ⟨G0, 0, none⟩ = some (.slice raw0.1 raw0.2.1 raw0.2.2) := Lib.cell_of_heap HD0.out 0
        have b0 : w7.cell? ⟨G1, 0, none⟩ = some (.slice raw1.1 raw1.2.1 raw1.2.2) := Lib.cell_of_heap HD1.out 0
        have z0 : w7.frozen? ⟨G1, 0, none⟩ = false := Lib.frozen_of_heap HD1.out 0
        go_upto_region 11 with (fail)
        refine wp_nm fun w8 hw8 => ?_
        have HG : Hid (w7.grownBy w8 (some G1)) := by rw [← hw8]; exact Lib.hid (grown_one w7 G1 0 _)
        have HD1' := Lib.hid (show w8.heap[G1]? = some (.cells (certC raw0 tbs1 iss1 sub1 ser1 (fM k.f) (tM k.f k.t) n1 (k.e % 8589934592) sig1 xt0) 33) by rw [← hw8]; exact cert_set0 raw0 HD1.out)
        replace HS0 := Lib.hid (HS0.out.keptC HG.out HD1.out)
        replace HS1 := Lib.hid (HS1.out.keptC HG.out HD1.out)
        replace HD0 := Lib.hid (has_grown HD0.out HG.out hne)
        replace HB := Lib.hid (kp_grown HB.out HG.out HGB.out)
        clear a0 b0 z0 hw8 HG HD1 HK
        have a0 : w8.cell? ⟨G0, 1, none⟩ = some (.slice tbs0.1 tbs0.2.1 tbs0.2.2) := Lib.cell_of_heap HD0.out 1
        have b0 : w8.cell? ⟨G1, 1, none⟩ = some (.slice tbs1.1 tbs1.2.1 tbs1.2.2) := Lib.cell_of_heap HD1'.out 1
        have z0 : w8.frozen? ⟨G1, 1, none⟩ = false := Lib.frozen_of_heap HD1'.out 1
        go_upto_region 12 with (fail)
        refine wp_nm fun w9 hw9 => ?_
        have HG : Hid (w8.grownBy w9 (some G1)) := by rw [← hw9]; exact Lib.hid (grown_one w8 G1 1 _)
        have HD1 := Lib.hid (show w9.heap[G1]? = some (.cells (certC raw0 tbs0 iss1 sub1 ser1 (fM k.f) (tM k.f k.t) n1 (k.e % 8589934592) sig1 xt0) 33) by rw [← hw9]; exact cert_set1 tbs0 HD1'.out)
        replace HS0 := Lib.hid (HS0.out.keptC HG.out HD1'.out)
        replace HS1 := Lib.hid (HS1.out.keptC HG.out HD1'.out)
        replace HD0 := Lib.hid (has_grown HD0.out HG.out hne)
        replace HB := Lib.hid (kp_grown HB.out HG.out HGB.out)
        clear a0 b0 z0 hw9 HG HD1' hne
        have I0 := Lib.hid (certC_info raw0 tbs0 iss0 sub0 ser0 (fM k.f) (tM k.f k.t) n0 (k.e % 8589934592) sig0 xt0)
        have I1 := Lib.hid (certC_info raw0 tbs0 iss1 sub1 ser1 (fM k.f) (tM k.f k.t) n1 (k.e % 8589934592) sig1 xt0)
        have HSM := Lib.hid (same12_s (l0 := xC k []) (raw := raw0) (tbs := tbs0) (iss := iss0) (sub := sub0) (ser := ser0) (nn := n0) (sig := sig0) (raw' := raw0) (tbs' := tbs0) (iss' := iss1) (sub' := sub1) (ser' := ser1) (nn' := n1) (sig' := sig1) (fM k.f) (tM k.f k.t) (k.e % 8589934592) xt0 w9 (OwnB.rb HS0.out.1) (OwnB.rb HS0.out.2.1) (OwnB.rb HS0.out.2.2.1) (OwnB.rb HS0.out.2.2.2.1) (OwnB.rb HS0.out.2.2.2.2.1) (OwnB.rb HS0.out.2.2.2.2.2.1) (OwnB.rb HS0.out.2.2.2.2.2.2)
          (OwnB.rb HS0.out.1) (OwnB.rb HS0.out.2.1) (OwnB.rb HS1.out.2.2.1) (OwnB.rb HS1.out.2.2.2.1) (OwnB.rb HS1.out.2.2.2.2.1) (OwnB.rb HS1.out.2.2.2.2.2.1) (OwnB.rb HS1.out.2.2.2.2.2.2))
        clear HS0 HS1
        generalize certC raw0 tbs0 iss0 sub0 ser0 (fM k.f) (tM k.f k.t) n0 (k.e % 8589934592) sig0 xt0 = E0 at *
        generalize certC raw0 tbs0 iss1 sub1 ser1 (fM k.f) (tM k.f k.t) n1 (k.e % 8589934592) sig1 xt0 = E1 at *
        go_wp2_with (first | (refine wpList_load_row rfl _ _ rfl G0 rfl _ E0 _ _ HD0.out Try.underlying33 rfl I0.out ?_) | (refine wpList_load_row rfl _ _ rfl G1 rfl _ E1 _ _ HD1.out Try.underlying33 rfl I1.out ?_))
        refine HSM.out.mono ?_
        rintro e' w10 ⟨rfl, hb⟩
        replace HB := Lib.hid (kp_call HB.out hb)
        clear hb HSM
        go_wp2_with fail
        refine (works12_any _).mono ?_
        rintro e w' ⟨rfl, hb⟩
        have HBE := Lib.hid (kp_call HB.out hb)
        clear hb
        go_wp2
        go_ret
        exact ⟨rfl, HBE.out⟩

theorem strange_row (k : KC) (A : Option Addr) (n c : Nat) (xs : List Nat) (B : Option Addr) (m q : Nat) (ob : List UInt8) (w : World) (hk : IsKC w k) (hN : IsNsR w A n c xs) (h : IsBs w B m q ob) : Calls Try.prog 5 #[k.val, .slice A n c, .slice B m q] w fun e w' => e = .returned (.bool true) ∧ Below w.heap.size w w' := by
  by_cases hm : 500 < m
  · exact strange_big k A n c xs B m q ob w hk hN hm
  · exact strange_go k A n c xs B m q ob w hk hN h.rb (by omega)
end Go.Proofs.Ytomolfdcdmncoaa
