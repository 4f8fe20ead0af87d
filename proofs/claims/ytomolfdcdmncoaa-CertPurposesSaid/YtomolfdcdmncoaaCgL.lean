/-
  cert: the statement on purposes.
-/
import Derived.Test.YtomolfdcdmncoaaCgI
import Derived.Test.YtomolfdcdmncoaaCgH
import Derived.Test.YtomolfdcdmncoaaCfY
namespace Go.Proofs.Ytomolfdcdmncoaa
open Go.RowKit Go
set_option linter.unusedVariables false
set_option linter.unusedSimpArgs false
set_option maxRecDepth 100000

/-- The i-th identifier of a case's purposes, and the first so many. -/
def piN (code : Nat) (xss : Nat → List Nat) (i : Nat) : List UInt8 := if i = code then cdB else strQ (putoidQ (xss i))
def piL (code : Nat) (xss : Nat → List Nat) (k : Nat) : List (List UInt8) := (List.range k).map (piN code xss)
def piO (code : Nat) (xss : Nat → List Nat) (k : Nat) : Bool := (piL code xss k).any (fun i => decide (i = cdB))
theorem piL_succ (code : Nat) (xss : Nat → List Nat) (k : Nat) : piL code xss (k + 1) = piL code xss k ++ [piN code xss k] := by
  unfold piL; rw [List.range_succ, List.map_append]; rfl
theorem piO_succ (code : Nat) (xss : Nat → List Nat) (k : Nat) : piO code xss (k + 1) = (piO code xss k || decide (piN code xss k = cdB)) := by
  unfold piO; rw [piL_succ, List.any_append]; simp
theorem piL_len (code : Nat) (xss : Nat → List Nat) (k : Nat) : (piL code xss k).length = k := by simp [piL]
theorem piL_ok (code : Nat) (xss : Nat → List Nat) (n k : Nat) (hk : k ≤ n) (h : ∀ i, i < n → ∀ x ∈ xss i, x < 18446744073709551616) : ∀ i ∈ piL code xss k, PuOk i := by
  intro i hi
  obtain ⟨j, hj, rfl⟩ := List.mem_map.1 hi
  have hj2 := List.mem_range.1 hj
  unfold piN
  split
  · exact pu_cd
  · exact pu_str _ (h j (by omega))
theorem puL_flat (l : List (List UInt8)) : (l.map (wrQ 6)).flatten = puL l := by unfold puL; rw [List.flatMap_def]

set_option maxHeartbeats 4000000 in
theorem purposes_big (k : KC) (A : Option Addr) (n c : Nat) (X : Nat → Option Addr × Nat × Nat) (xss : Nat → List Nat) (code : Nat) (w : World) (hk : IsKC w k) (hm : 20 < n) : Calls Try.prog 8 #[k.val, .slice A n c, .int .u8 (code : Int)] w fun e w' => e = .returned (.bool true) ∧ Below w.heap.size w w' := by
  have q1 : decide ((20 : Int) < (n : Int)) = true := decide_eq_true (by omega)
  have HKC := Lib.hid hk
  have HCS := Lib.hid (kc_info k)
  unfold KC.val
  obtain ⟨CC, HCC⟩ : ∃ CC, Hid (k.cells = CC) := ⟨_, Lib.hid rfl⟩
  have ICC : Hid ((Try.prog.info? 28).map (·.size) = some CC.size) := by rw [← HCC.out]; exact Lib.hid (kc_info k)
  clear hk HCS
  rw [HCC.out]
  go_enter Try.func8, Try.ntmps8
  go_upto_region 1 with (fail)
  refine wp_nm fun w0 hw0 => ?_
  have HB := Lib.hid (show Below w.heap.size w w0 by rw [← hw0]; exact kp_alloc (Below.refl _ _) _)
  have HK := Lib.hid (show w0.heap[w.heap.size]? = some (.cells CC 28) by rw [← hw0]; exact has_new _ _)
  clear hw0
  go_wp2_with fail
  refine (works12_any _).mono ?_
  rintro e w' ⟨rfl, hb⟩
  have HBE := Lib.hid (kp_call HB.out hb)
  clear hb
  go_wp2
  go_ret
  exact ⟨rfl, HBE.out⟩

theorem fill_pu13_48 : Instr.fill (fun i => some (i * 1, 1)) ((Array.range (3 * 1)).map ((Value.int .u8 0).cells[· % (Value.int .u8 0).cells.size]!)) [(0, .int .u8 85), (1, .int .u8 29), (2, .int .u8 37)] = some (([85, 29, 37] : List UInt8).map bv).toArray := by kernel_rfl
set_option maxHeartbeats 32000000 in
theorem purposes_go (k : KC) (A : Option Addr) (n c : Nat) (X : Nat → Option Addr × Nat × Nat) (xss : Nat → List Nat) (code : Nat) (w : World) (hk : IsKC w k) (hcd : code < 256) (hN : IsNss w A n c X xss) (hn : n ≤ 20) : Calls Try.prog 8 #[k.val, .slice A n c, .int .u8 (code : Int)] w fun e w' => e = .returned (.bool true) ∧ Below w.heap.size w w' := by
  have q1 : decide ((20 : Int) < (n : Int)) = false := decide_eq_false (by omega)
  have HN := Lib.hid hN
  have hlt20 : ∀ i, i < n → ∀ x ∈ xss i, x < 18446744073709551616 := fun i hi => by
    obtain ⟨_, _, _, _, h⟩ := hN.rows (by omega)
    exact (h i hi).2.lt
  have HPL := Lib.hid hlt20
  clear hlt20 hN
  have HCD := Lib.hid hcd
  clear hcd
  have HKC := Lib.hid hk
  have HCS := Lib.hid (kc_info k)
  unfold KC.val
  obtain ⟨CC, HCC⟩ : ∃ CC, Hid (k.cells = CC) := ⟨_, Lib.hid rfl⟩
  have ICC : Hid ((Try.prog.info? 28).map (·.size) = some CC.size) := by rw [← HCC.out]; exact Lib.hid (kc_info k)
  clear hk HCS
  rw [HCC.out]
  go_enter Try.func8, Try.ntmps8
  go_upto_region 1 with (fail)
  refine wp_nm fun w0 hw0 => ?_
  have HB := Lib.hid (show Below w.heap.size w w0 by rw [← hw0]; exact kp_alloc (Below.refl _ _) _)
  have HK := Lib.hid (show w0.heap[w.heap.size]? = some (.cells CC 28) by rw [← hw0]; exact has_new _ _)
  clear hw0
  go_upto_region 3 with (fail)
  clear q1
  go_wp2
  go_loopw [7, 8, 9] (fun v7 v8 v9 wl => ∃ (j : Nat) (A7 : Option Addr) (c7 : Nat) (l7 : List Row1), j ≤ n ∧ v9 = .int .i64 (j : Nat) ∧ v8 = .bool (piO code xss j) ∧ v7 = .slice A7 j c7 ∧ Hid (RowsO wl w.heap.size A7 j c7 l7) ∧ Hid (l7.map (·.2.2.2) = (piL code xss j).map (wrQ 6)) ∧ Hid (Below w.heap.size w wl) ∧ Hid (wl.heap[w.heap.size]? = some (.cells CC 28))) (fun _ _ i _ => n - (intOf i).toNat)
  case atStart => exact ⟨0, none, 0, [], Nat.zero_le _, rfl, rfl, rfl, Lib.hid (RowsO.nil _ _), Lib.hid rfl, HB, HK⟩
  case round =>
    obtain ⟨j, A7, c7, l7, hj, rfl, rfl, rfl, HR7, HL7, HB1, HK1⟩ := hrel
    clear HB HK
    by_cases hlt : j < n
    · obtain ⟨b, off, rfl, hbw, hrow⟩ := HN.out.rows (by omega)
      obtain ⟨hcj, hxj⟩ := hrow j hlt
      have cj : wr.cell? ⟨b, off + j, none⟩ = some (.slice (X j).1 (X j).2.1 (X j).2.2) := (HB1.out.cell (p := ⟨b, off + j, none⟩) hbw).trans hcj
      have HXJ := Lib.hid hxj
      have q1 : (j : Int) < (n : Int) := by omega
      have hj20 : j < 20 := by omega
      have HPO := Lib.hid (piO_succ code xss j)
      have HPLs := Lib.hid (piL_succ code xss j)
      clear hcj hxj hrow
      go_wp2_with fail
      refine (strangeR (HXJ.out.below HB1.out)).mono ?_
      rintro e' w1 ⟨AO, nO, cO, rfl, ho, hb⟩
      have HO := Lib.hid (ho.lower (base' := w.heap.size) HB1.out.size)
      have hol := str_fits (xss j)
      have hnO := ho.len
      have HR2 := Lib.hid (HR7.out.below hb)
      have HB2 := Lib.hid (kp_call HB1.out hb)
      have HK2 := Lib.hid (has_below HK1.out hb)
      clear ho hb HR7 HB1 HK1 cj HXJ
      obtain hjc | hjc : j = code ∨ j ≠ code := by omega
      · -- the one that is told
        subst hjc
        have HPN := Lib.hid (show piN j xss j = cdB by unfold piN; rw [if_pos rfl])
        have q2 : ((j : Int) == (j : Int)) = true := by simp
        go_upto_region 11 with (fail)
        refine wp_nm fun w2 hw2 => ?_
        have hb : Below w1.heap.size w1 w2 := by rw [← hw2]; exact kp_alloc (Below.refl _ _) _
        have HOC := Lib.hid (show OwnB w2 w.heap.size (some ⟨w1.heap.size, 0, none⟩) 8 8 cdB by rw [← hw2]; exact (own_lit w1 cdB 8 _ rfl rfl (by omega)).lower HB2.out.size)
        have hcdl : cdB.length = 8 := rfl
        replace HR2 := Lib.hid (HR2.out.below hb)
        replace HK2 := Lib.hid (has_below HK2.out hb)
        replace HB2 := Lib.hid (kp_call HB2.out hb)
        obtain ⟨gC, hgC⟩ : ∃ x, x = w1.heap.size := ⟨_, rfl⟩
        rw [← hgC] at HOC ⊢
        clear hw2 hb hgC HO
        cases hown : piO j xss j with
        | true =>
          rw [hown] at HPO
          have HPO2 := Lib.hid (show piO j xss (j + 1) = true by rw [HPO.out]; rfl)
          clear hown HPO
          go_wp2_with fail
          refine (rwrite_any 6 (some ⟨gC, 0, none⟩) 8 8 cdB w2 HOC.out.rb (by omega)).mono ?_
          rintro e' w4 ⟨A5, n5, c5, rfl, ho, hb⟩
          have HO5 := Lib.hid (ho.lower (base' := w.heap.size) HB2.out.size)
          replace HR2 := Lib.hid (HR2.out.below hb)
          replace HK2 := Lib.hid (has_below HK2.out hb)
          replace HB2 := Lib.hid (kp_call HB2.out hb)
          clear ho hb
          go_wp2_with (at_builtin; refine wpList_ap1 _ _ rfl rfl rfl w.heap.size A7 j c7 l7 rfl HR2.out (A5, n5, c5, wrQ 6 cdB) _ rfl rfl HO5.out (by omega) HB2.out.size ?_)
          intro A' c' w5 ho hg
          have HB5 := Lib.hid ((kp_alloc HB2.out _).grown hg (by have := HB2.out.size; simp; omega) (fun g hg => (HR2.out.own.blk_lt hg).1))
          have HK5 := Lib.hid (has_kindR (HR2.out.own.alloc _) (has_alloc HK2.out _) hg (by decide))
          have HLn := Lib.hid (show (l7 ++ [(A5, n5, c5, wrQ 6 cdB)]).map (·.2.2.2) = (piL j xss (j + 1)).map (wrQ 6) by rw [List.map_append, HL7.out, HPLs.out, List.map_append, HPN.out]; rfl)
          have HRn := Lib.hid ho
          clear ho hg
          go_wp2
          go_roundw
          case rel => exact ⟨j + 1, A', c', _, by omega, by go_num, by rw [HPO2.out], rfl, HRn, HLn, HB5, HK5⟩
          case measure => simp [intOf]; omega
        | false =>
          rw [hown] at HPO
          have HPO2 := Lib.hid (show piO j xss (j + 1) = true by rw [HPO.out, HPN.out]; rfl)
          have k1 := run_bstring (c := 8) HOC.out.rb
          have k2 := run_bstring (c := 8) (own_lit w2 cdB 8 #[.int .u8 43, .int .u8 6, .int .u8 1, .int .u8 5, .int .u8 5, .int .u8 7, .int .u8 3, .int .u8 3] rfl rfl (by omega)).rb
          obtain ⟨sC, hsC⟩ : ∃ s, (⟨cdB.toArray⟩ : ByteArray) = s := ⟨_, rfl⟩
          rw [hsC] at k1 k2
          have q4 : (sC.toList == sC.toList) = true := by simp
          clear hown HPO hsC
          go_upto_region 12 with (fail)
          refine wp_nm fun w3 hw3 => ?_
          have hb : Below w2.heap.size w2 w3 := by rw [← hw3]; exact kp_alloc (Below.refl _ _) _
          replace HR2 := Lib.hid (HR2.out.below hb)
          replace HK2 := Lib.hid (has_below HK2.out hb)
          replace HB2 := Lib.hid (kp_call HB2.out hb)
          replace HOC := Lib.hid (HOC.out.below hb (Nat.le_refl _))
          clear hw3 hb k1 k2 q4
          go_wp2_with fail
          refine (rwrite_any 6 (some ⟨gC, 0, none⟩) 8 8 cdB w3 HOC.out.rb (by omega)).mono ?_
          rintro e' w4 ⟨A5, n5, c5, rfl, ho, hb⟩
          have HO5 := Lib.hid (ho.lower (base' := w.heap.size) HB2.out.size)
          replace HR2 := Lib.hid (HR2.out.below hb)
          replace HK2 := Lib.hid (has_below HK2.out hb)
          replace HB2 := Lib.hid (kp_call HB2.out hb)
          clear ho hb
          go_wp2_with (at_builtin; refine wpList_ap1 _ _ rfl rfl rfl w.heap.size A7 j c7 l7 rfl HR2.out (A5, n5, c5, wrQ 6 cdB) _ rfl rfl HO5.out (by omega) HB2.out.size ?_)
          intro A' c' w5 ho hg
          have HB5 := Lib.hid ((kp_alloc HB2.out _).grown hg (by have := HB2.out.size; simp; omega) (fun g hg => (HR2.out.own.blk_lt hg).1))
          have HK5 := Lib.hid (has_kindR (HR2.out.own.alloc _) (has_alloc HK2.out _) hg (by decide))
          have HLn := Lib.hid (show (l7 ++ [(A5, n5, c5, wrQ 6 cdB)]).map (·.2.2.2) = (piL j xss (j + 1)).map (wrQ 6) by rw [List.map_append, HL7.out, HPLs.out, List.map_append, HPN.out]; rfl)
          have HRn := Lib.hid ho
          clear ho hg
          go_wp2
          go_roundw
          case rel => exact ⟨j + 1, A', c', _, by omega, by go_num, by rw [HPO2.out], rfl, HRn, HLn, HB5, HK5⟩
          case measure => simp [intOf]; omega
      · -- another one
        have HPN := Lib.hid (show piN code xss j = strQ (putoidQ (xss j)) by unfold piN; rw [if_neg hjc])
        have q2 : ((j : Int) == (code : Int)) = false := beq_eq_false_iff_ne.2 (by omega)
        have hcd := HCD.out
        have m1 : IntKind.i64.wrap (code : Int) = (code : Int) := by rw [IntKind.wrap_i64]; omega
        have q3 : (j == code) = false := beq_eq_false_iff_ne.2 hjc
        generalize strQ (putoidQ (xss j)) = O at *
        go_upto_region 11 with (fail)
        clear q2 q3 m1 hcd
        cases hown : piO code xss j with
        | true =>
          rw [hown] at HPO
          have HPO2 := Lib.hid (show piO code xss (j + 1) = true by rw [HPO.out]; rfl)
          clear hown HPO hjc
          go_wp2_with fail
          refine (rwrite_any 6 AO nO cO O w1 HO.out.rb (by omega)).mono ?_
          rintro e' w4 ⟨A5, n5, c5, rfl, ho, hb⟩
          have HO5 := Lib.hid (ho.lower (base' := w.heap.size) HB2.out.size)
          replace HR2 := Lib.hid (HR2.out.below hb)
          replace HK2 := Lib.hid (has_below HK2.out hb)
          replace HB2 := Lib.hid (kp_call HB2.out hb)
          clear ho hb
          go_wp2_with (at_builtin; refine wpList_ap1 _ _ rfl rfl rfl w.heap.size A7 j c7 l7 rfl HR2.out (A5, n5, c5, wrQ 6 O) _ rfl rfl HO5.out (by omega) HB2.out.size ?_)
          intro A' c' w5 ho hg
          have HB5 := Lib.hid ((kp_alloc HB2.out _).grown hg (by have := HB2.out.size; simp; omega) (fun g hg => (HR2.out.own.blk_lt hg).1))
          have HK5 := Lib.hid (has_kindR (HR2.out.own.alloc _) (has_alloc HK2.out _) hg (by decide))
          have HLn := Lib.hid (show (l7 ++ [(A5, n5, c5, wrQ 6 O)]).map (·.2.2.2) = (piL code xss (j + 1)).map (wrQ 6) by rw [List.map_append, HL7.out, HPLs.out, List.map_append, HPN.out]; rfl)
          have HRn := Lib.hid ho
          clear ho hg
          go_wp2
          go_roundw
          case rel => exact ⟨j + 1, A', c', _, by omega, by go_num, by rw [HPO2.out], rfl, HRn, HLn, HB5, HK5⟩
          case measure => simp [intOf]; omega
        | false =>
          rw [hown] at HPO
          have k1 := run_bstring (c := cO) HO.out.rb
          have k2 := run_bstring (c := 8) (own_lit w1 cdB 8 #[.int .u8 43, .int .u8 6, .int .u8 1, .int .u8 5, .int .u8 5, .int .u8 7, .int .u8 3, .int .u8 3] rfl rfl (by omega)).rb
          obtain hOc | hOc : O = cdB ∨ O ≠ cdB := Decidable.em _
          · have HPO2 := Lib.hid (show piO code xss (j + 1) = true by rw [HPO.out, HPN.out, hOc]; rfl)
            rw [hOc] at k1
            obtain ⟨sC, hsC⟩ : ∃ s, (⟨cdB.toArray⟩ : ByteArray) = s := ⟨_, rfl⟩
            rw [hsC] at k1 k2
            have q4 : (sC.toList == sC.toList) = true := by simp
            clear hown HPO hsC hOc hjc
            go_upto_region 12 with (fail)
            refine wp_nm fun w3 hw3 => ?_
            have hb : Below w1.heap.size w1 w3 := by rw [← hw3]; exact kp_alloc (Below.refl _ _) _
            replace HR2 := Lib.hid (HR2.out.below hb)
            replace HK2 := Lib.hid (has_below HK2.out hb)
            replace HB2 := Lib.hid (kp_call HB2.out hb)
            replace HO := Lib.hid (HO.out.below hb (Nat.le_refl _))
            clear hw3 hb k1 k2 q4
            go_wp2_with fail
            refine (rwrite_any 6 AO nO cO O w3 HO.out.rb (by omega)).mono ?_
            rintro e' w4 ⟨A5, n5, c5, rfl, ho, hb⟩
            have HO5 := Lib.hid (ho.lower (base' := w.heap.size) HB2.out.size)
            replace HR2 := Lib.hid (HR2.out.below hb)
            replace HK2 := Lib.hid (has_below HK2.out hb)
            replace HB2 := Lib.hid (kp_call HB2.out hb)
            clear ho hb
            go_wp2_with (at_builtin; refine wpList_ap1 _ _ rfl rfl rfl w.heap.size A7 j c7 l7 rfl HR2.out (A5, n5, c5, wrQ 6 O) _ rfl rfl HO5.out (by omega) HB2.out.size ?_)
            intro A' c' w5 ho hg
            have HB5 := Lib.hid ((kp_alloc HB2.out _).grown hg (by have := HB2.out.size; simp; omega) (fun g hg => (HR2.out.own.blk_lt hg).1))
            have HK5 := Lib.hid (has_kindR (HR2.out.own.alloc _) (has_alloc HK2.out _) hg (by decide))
            have HLn := Lib.hid (show (l7 ++ [(A5, n5, c5, wrQ 6 O)]).map (·.2.2.2) = (piL code xss (j + 1)).map (wrQ 6) by rw [List.map_append, HL7.out, HPLs.out, List.map_append, HPN.out]; rfl)
            have HRn := Lib.hid ho
            clear ho hg
            go_wp2
            go_roundw
            case rel => exact ⟨j + 1, A', c', _, by omega, by go_num, by rw [HPO2.out], rfl, HRn, HLn, HB5, HK5⟩
            case measure => simp [intOf]; omega
          · have HPO2 := Lib.hid (show piO code xss (j + 1) = false by rw [HPO.out, HPN.out, decide_eq_false hOc]; rfl)
            have hne : (⟨O.toArray⟩ : ByteArray).toList ≠ (⟨cdB.toArray⟩ : ByteArray).toList := fun e => hOc (by have h1 : (strOf O).toList = (strOf cdB).toList := e; rwa [strOf_toList, strOf_toList] at h1)
            obtain ⟨sC, hsC⟩ : ∃ s, (⟨cdB.toArray⟩ : ByteArray) = s := ⟨_, rfl⟩
            obtain ⟨sO, hsO⟩ : ∃ s, (⟨O.toArray⟩ : ByteArray) = s := ⟨_, rfl⟩
            rw [hsC] at k2 hne
            rw [hsO] at k1 hne
            have q4 : (sO.toList == sC.toList) = false := beq_eq_false_iff_ne.2 hne
            have q5 : ¬ sO.toList = sC.toList := hne
            have q6 : (sO.toList != sC.toList) = true := bne_iff_ne.2 hne
            clear hown HPO hsC hsO hOc hjc hne
            go_upto_region 12 with (fail)
            refine wp_nm fun w3 hw3 => ?_
            have hb : Below w1.heap.size w1 w3 := by rw [← hw3]; exact kp_alloc (Below.refl _ _) _
            replace HR2 := Lib.hid (HR2.out.below hb)
            replace HK2 := Lib.hid (has_below HK2.out hb)
            replace HB2 := Lib.hid (kp_call HB2.out hb)
            replace HO := Lib.hid (HO.out.below hb (Nat.le_refl _))
            clear hw3 hb k1 k2 q4 q5 q6
            go_wp2_with fail
            refine (rwrite_any 6 AO nO cO O w3 HO.out.rb (by omega)).mono ?_
            rintro e' w4 ⟨A5, n5, c5, rfl, ho, hb⟩
            have HO5 := Lib.hid (ho.lower (base' := w.heap.size) HB2.out.size)
            replace HR2 := Lib.hid (HR2.out.below hb)
            replace HK2 := Lib.hid (has_below HK2.out hb)
            replace HB2 := Lib.hid (kp_call HB2.out hb)
            clear ho hb
            go_wp2_with (at_builtin; refine wpList_ap1 _ _ rfl rfl rfl w.heap.size A7 j c7 l7 rfl HR2.out (A5, n5, c5, wrQ 6 O) _ rfl rfl HO5.out (by omega) HB2.out.size ?_)
            intro A' c' w5 ho hg
            have HB5 := Lib.hid ((kp_alloc HB2.out _).grown hg (by have := HB2.out.size; simp; omega) (fun g hg => (HR2.out.own.blk_lt hg).1))
            have HK5 := Lib.hid (has_kindR (HR2.out.own.alloc _) (has_alloc HK2.out _) hg (by decide))
            have HLn := Lib.hid (show (l7 ++ [(A5, n5, c5, wrQ 6 O)]).map (·.2.2.2) = (piL code xss (j + 1)).map (wrQ 6) by rw [List.map_append, HL7.out, HPLs.out, List.map_append, HPN.out]; rfl)
            have HRn := Lib.hid ho
            clear ho hg
            go_wp2
            go_roundw
            case rel => exact ⟨j + 1, A', c', _, by omega, by go_num, by rw [HPO2.out], rfl, HRn, HLn, HB5, HK5⟩
            case measure => simp [intOf]; omega
    · obtain rfl : j = n := by omega
      obtain ⟨nj, rfl⟩ : ∃ x, x = j := ⟨_, rfl⟩
      have hok := piL_ok code xss nj nj (Nat.le_refl _) HPL.out
      have hpl := puL_len _ hok
      rw [piL_len] at hpl
      have hpl2 : (puL (piL code xss nj)).length ≤ 6080 := by omega
      have HX1 := Lib.hid (pu_one (piL code xss nj) hok (by rw [piL_len]; exact hn) false)
      have hwl := wrQ_len 48 (puL (piL code xss nj)) (by omega)
      have HF1 := Lib.hid (show ∀ x ∈ [((o37, false, wrQ 48 (puL (piL code xss nj))) : Ex)], ExFit x from fun x hx => by rw [List.mem_singleton] at hx; subst hx; exact ⟨by simp only; decide, by simp only; omega⟩)
      have L1 := Lib.hid (show (exsF [((o37, false, wrQ 48 (puL (piL code xss nj))) : Ex)]).length ≤ 6200 by
        have h1 := exsF_one (o37, false, wrQ 48 (puL (piL code xss nj)))
        have h2 := exB_len (o37, false, wrQ 48 (puL (piL code xss nj))) (by simp only; decide) (by simp only; omega)
        have h3 : o37.length = 3 := rfl
        simp only at h2
        omega)
      have HPE := Lib.hid (show piO code xss nj = (piL code xss nj).any (fun i => decide (i = cdB)) from rfl)
      have HNE := Lib.hid (show piL code xss nj = [] ↔ nj = 0 by rw [← List.length_eq_zero_iff, piL_len])
      have HPLn := Lib.hid (piL_len code xss nj)
      generalize piL code xss nj = PL at *
      generalize piO code xss nj = own at *
      clear hok hpl HPL HN
      have HB := HB1
      have HK := HK1
      clear HB1 HK1
      go_upto_region 13 with (fail)
      refine wp_region_monoS (by kernel_rfl) (by kernel_rfl) [47, 48, 49, 50, 51, 52, 53, 54, 46, 55, 56, 11] (by rfl) (by rfl) (by decide) (by rfl) (fun j => ([MR.eq (.agg CC), MR.lit (wr.heap.size) ([85, 29, 37]), MR.eq (.slice A7 nj c7), MR.own (w.heap.size) (wrQ 48 (puL PL)), MR.own (w.heap.size) (exB (o37, false, wrQ 48 (puL PL))), MR.rows [exB (o37, false, wrQ 48 (puL PL))], MR.own (w.heap.size) (xC k [(o37, false, wrQ 48 (puL PL))]), MR.par (w.heap.size) (xC k [(o37, false, wrQ 48 (puL PL))]), MR.par (w.heap.size) (xC k [(o37, false, wrQ 48 (puL PL))]), MR.par0 (w.heap.size) (xC k [(o37, false, wrQ 48 (puL PL))]), MR.eq (.int .i64 (erQ (xC k [(o37, false, wrQ 48 (puL PL))]) : Int)), MR.fresh0 (wr.heap.size)] : List MR).getD j MR.any) [] [[], [], [], [2], [1, 2, 3], [1, 2, 3, 4], [0, 1, 2, 3, 4, 5], [0, 1, 2, 3, 4, 5, 6], [0, 1, 2, 3, 4, 5, 6, 7], [0, 1, 2, 3, 4, 5, 6, 7, 8], [0, 1, 2, 3, 4, 5, 6, 7, 8], [], [0, 1, 2, 3, 4, 5, 6, 7, 8, 9, 11], [0, 1, 2, 3, 4, 5, 6, 7, 8, 9, 10, 11, 12]] (by kernel_rfl) (by kernel_rfl) 10 (by decide) (by kernel_rfl) (by kernel_rfl) _ (by rfl) _ 11 55 (by rfl) (by rfl) (by rfl) (by decide) (by decide) _ (by rfl) (by rfl) ?_ (by rfl) ?_ ?_
      · intro ρ W E
        obtain ⟨D46, e46, P46⟩ : (MR.par (w.heap.size) (xC k [(o37, false, wrQ 48 (puL PL))])).p (ρ (.tmp 46)) W := E.dep 8 (by kernel_rfl)
        exact ⟨_, pure_extract rfl e46 (fun _ => by kernel_rfl), rfl⟩
      · intro i hi ρ W E
        simp only [List.length_cons, List.length_nil] at hi
        have hbW : w.heap.size ≤ W.heap.size := Nat.le_trans HB.out.size E.up.size
        rcases (show i = 0 ∨ i = 1 ∨ i = 2 ∨ i = 3 ∨ i = 4 ∨ i = 5 ∨ i = 6 ∨ i = 7 ∨ i = 8 ∨ i = 9 ∨ i = 10 ∨ i = 11 by omega) with rfl | rfl | rfl | rfl | rfl | rfl | rfl | rfl | rfl | rfl | rfl | rfl
        · -- 0: load 28 t3
          refine mono_at (by rfl) rfl ?_
          have e3 : ρ (.tmp 3) = .pointer (some ⟨w.heap.size, 0, none⟩) := E.old 3 rfl
          exact mo_loadr rfl e3 (has_below HK.out E.up) Try.underlying28 rfl ICC.out ⟨Below.refl _ _, rfl⟩
        · -- 1: buildSlice 22 3 #[(0, const (85:u8)), (1, const (29:u8)), (2
          refine mono_at (by rfl) rfl ?_
          exact mo_bytes [85, 29, 37] 3 rfl (vs := [(0, .int .u8 85), (1, .int .u8 29), (2, .int .u8 37)]) (by simp only [List.map_toArray, List.map_cons, List.map_nil, E.cst]) fill_pu13_48 rfl (by omega) (by omega) E.up.size
        · -- 2: move t7
          refine mono_at (by rfl) rfl ?_
          have e7 : ρ (.tmp 7) = .slice A7 nj c7 := E.old 7 rfl
          exact mo_move rfl ⟨Below.refl _ _, e7⟩
        · -- 3: call { value (Operand.func 28), args := #[t49], argTypes := 
          refine mono_at (by rfl) rfl ?_
          have e49 : ρ (.tmp 49) = .slice A7 nj c7 := E.dep 2 (by kernel_rfl)
          refine mo_call rfl (E.fn _) (fun _ _ => by kernel_rfl) (args := #[.slice A7 nj c7]) (by simp only [List.map_toArray, List.map_cons, List.map_nil, List.length_cons, List.length_nil, Nat.reduceAdd, E.cst, e49]) ?_
          have h9 := seqM (base := w.heap.size) (bss := PL.map (wrQ 6)) (HR7.out.rows.below E.up) HL7.out (by rw [List.length_map, HPLn.out]) (by omega) (by rw [puL_flat]; omega) hbW (c := c7)
          rw [puL_flat] at h9
          exact h9
        · -- 4: call { value (Operand.func 25), args := #[t48, const (Value.
          refine mono_at (by rfl) rfl ?_
          obtain ⟨g48, q48, e48, z48, o48⟩ : (MR.lit (wr.heap.size) ([85, 29, 37])).p (ρ (.tmp 48)) W := E.dep 1 (by kernel_rfl)
          obtain ⟨A50, n50, c50, e50, o50⟩ : (MR.own (w.heap.size) (wrQ 48 (puL PL))).p (ρ (.tmp 50)) W := E.dep 3 (by kernel_rfl)
          refine mo_call rfl (E.fn _) (fun _ _ => by kernel_rfl) (args := #[.slice (some ⟨g48, 0, none⟩) (List.length ([85, 29, 37] : List UInt8)) (List.length ([85, 29, 37] : List UInt8)), Value.bool false, .slice A50 n50 c50]) (by simp only [List.map_toArray, List.map_cons, List.map_nil, List.length_cons, List.length_nil, Nat.reduceAdd, E.cst, e48, e50]) ?_
          exact extM false (lit_rb o48) o50.rb (by decide) (by have h9 := o50.len; omega) hbW
        · -- 5: buildSlice 56 1 #[(0, t51)]
          refine mono_at (by rfl) rfl ?_
          obtain ⟨A51, n51, c51, e51, o51⟩ : (MR.own (w.heap.size) (exB (o37, false, wrQ 48 (puL PL)))).p (ρ (.tmp 51)) W := E.dep 4 (by kernel_rfl)
          exact mo_rows [(A51, n51, c51, exB (o37, false, wrQ 48 (puL PL)))] 1 rfl (vs := [(0, .slice A51 n51 c51)]) (by simp only [List.map_toArray, List.map_cons, List.map_nil, E.cst, e51]) (by kernel_rfl) rfl (by omega) (by omega) (all1R o51.rb all0R)
        · -- 6: call { value (Operand.func 24), args := #[t47, t52], argType
          refine mono_at (by rfl) rfl ?_
          have e47 : ρ (.tmp 47) = .agg CC := E.dep 0 (by kernel_rfl)
          obtain ⟨A52, l52, e52, r52, m52⟩ : (MR.rows [exB (o37, false, wrQ 48 (puL PL))]).p (ρ (.tmp 52)) W := E.dep 5 (by kernel_rfl)
          refine mo_call rfl (E.fn _) (fun _ _ => by kernel_rfl) (args := #[.agg CC, .slice A52 1 1]) (by simp only [List.map_toArray, List.map_cons, List.map_nil, List.length_cons, List.length_nil, Nat.reduceAdd, E.cst, e47, e52]) ?_
          rw [← HCC.out]
          exact withM HKC.out (HB.out.trans (E.up.mono HB.out.size)) [(o37, false, wrQ 48 (puL PL))] r52 m52 rfl (by omega) (Nat.le_trans L1.out (by omega)) hbW
        · -- 7: call { value (Operand.func 15), args := #[t53], argTypes := 
          refine mono_at (by rfl) rfl ?_
          obtain ⟨A53, n53, c53, e53, o53⟩ : (MR.own (w.heap.size) (xC k [(o37, false, wrQ 48 (puL PL))])).p (ρ (.tmp 53)) W := E.dep 6 (by kernel_rfl)
          refine mo_call rfl (E.fn _) (fun _ _ => by kernel_rfl) (args := #[.slice A53 n53 c53]) (by simp only [List.map_toArray, List.map_cons, List.map_nil, List.length_cons, List.length_nil, Nat.reduceAdd, E.cst, e53]) ?_
          exact parM o53.rb o53.cap.1 o53.cap.2 (Nat.le_trans (xC_len k [(o37, false, wrQ 48 (puL PL))] L1.out) (by omega)) hbW
        · -- 8: move t54
          refine mono_at (by rfl) rfl ?_
          obtain ⟨D54, e54, P54⟩ : (MR.par (w.heap.size) (xC k [(o37, false, wrQ 48 (puL PL))])).p (ρ (.tmp 54)) W := E.dep 7 (by kernel_rfl)
          exact mo_move rfl ⟨Below.refl _ _, E.dep 7 (by kernel_rfl)⟩
        · -- 9: extract t46 0
          refine mono_at (by rfl) rfl ?_
          obtain ⟨D46, e46, P46⟩ : (MR.par (w.heap.size) (xC k [(o37, false, wrQ 48 (puL PL))])).p (ρ (.tmp 46)) W := E.dep 8 (by kernel_rfl)
          exact mo_extract rfl e46 (by kernel_rfl) ⟨Below.refl _ _, _, rfl, P46⟩
        · -- 10: extract t46 1
          refine mono_at (by rfl) rfl ?_
          obtain ⟨D46, e46, P46⟩ : (MR.par (w.heap.size) (xC k [(o37, false, wrQ 48 (puL PL))])).p (ρ (.tmp 46)) W := E.dep 8 (by kernel_rfl)
          exact mo_extract rfl e46 (by kernel_rfl) ⟨Below.refl _ _, rfl⟩
        · -- 11: alloc 33
          refine mono_at (by rfl) rfl ?_
          exact mo_alloc rfl run_alloc0 ⟨kp_alloc (Below.refl _ _) _, _, rfl, E.up.size, has_new _ _⟩
      · intro u W hbU hR
        obtain ⟨Du55, eu55, Pu55⟩ : (MR.par0 (w.heap.size) (xC k [(o37, false, wrQ 48 (puL PL))])).p (u 9) W := hR 9 (by decide)
        have hu56 : u 10 = .int .i64 (erQ (xC k [(o37, false, wrQ 48 (puL PL))]) : Int) := hR 10 (by decide)
        obtain ⟨gu11, eu11, Lu11, Zu11⟩ : (MR.fresh0 (wr.heap.size)).p (u 11) W := hR 11 (by decide)
        clear hR
        simp only [lay, Nat.reduceAdd, List.setIfInBounds_toArray, List.set_cons_zero, List.set_cons_succ]
        refine ⟨_, (by show (Instr.storeAt _ (u 11) (u 9)).run _ W = _; rw [eu11, eu55]; exact run_storeAt_row9 W gu11 _ _ _ Du55 Zu11 (info24 Pu55.size.1) (by rw [Pu55.size.1]; rfl) Pu55.size.2), wpOp_val (v := u 10) (by rfl) rfl (by rfl) ?_⟩
        dsimp only [Act.put]
        simp only [List.setIfInBounds_toArray, List.set_cons_zero, List.set_cons_succ, eu55, hu56, eu11]
        clear eu55 hu56 eu11
        have HZ := Lib.hid Zu11
        have hgL := Lu11
        have HPq := Lib.hid Pu55
        have IDq := Lib.hid (info24 Pu55.size.1)
        clear Zu11 Pu55
        go_upto_region 14 with (fail)
        try go_simp
        refine wp_nm fun w5 hww5 => ?_
        have HG : Hid (W.grownBy w5 (some gu11)) := by rw [← hww5]; exact Lib.hid (grown_row ..)
        have HD1 := Lib.hid (show w5.heap[gu11]? = some (.cells Du55 33) by rw [← hww5]; exact setRow_heap _ _ _ _ _ _ HZ.out)
        have hbn : Below wr.heap.size wr w5 := hbU.grown HG.out hbU.size (fun k hk => by injection hk with hk; omega)
        have HP1 := Lib.hid (HPq.out.keptC HG.out HZ.out)
        replace HB := Lib.hid (kp_call HB.out hbn)
        replace HK := Lib.hid (has_below HK.out hbn)
        obtain ⟨G1, rfl⟩ : ∃ x, x = gu11 := ⟨_, rfl⟩
        obtain ⟨D1, rfl⟩ : ∃ x, x = Du55 := ⟨_, rfl⟩
        have ID1 := IDq
        have G1L := Lib.hid hgL
        clear hww5 HG HZ HPq hbU hgL Lu11 IDq hbn
        obtain h0 | h0 : nj = 0 ∨ 0 < nj := by omega
        · subst h0
          have HC := Lib.hid (xC_no (k := k) HF1.out L1.out (by rw [HX1.out, if_pos (HNE.out.2 rfl)]))
          rw [HC.out]
          clear HC HX1 HF1 L1 HP1 HNE HPLn
          go_wp2_with fail
          refine (works12_any _).mono ?_
          rintro e w' ⟨rfl, hb⟩
          have HBE := Lib.hid (kp_call HB.out hb)
          clear hb
          go_wp2
          go_ret
          exact ⟨rfl, HBE.out⟩
        · have hv := HX1.out
          rw [if_neg (fun e => by have := HNE.out.1 e; omega)] at hv
          have HC := Lib.hid (xC_er (k := k) HF1.out L1.out hv)
          rw [HC.out]
          obtain ⟨_, _, _, _, _, _, _, hD, _⟩ := HP1.out.ceX HF1.out L1.out _ hv
          have v23 : D1[23]? = some (.bool own) := by rw [hD, HPE.out]; rfl
          have c23 := (Lib.cell_of_heap HD1.out 23).trans v23
          have q1 : ((nj : Int) == 0) = false := beq_eq_false_iff_ne.2 (by omega)
          have q2 : (nj == 0) = false := beq_eq_false_iff_ne.2 (by omega)
          have q3 : (own == own) = true := by simp
          clear hv HC hD v23 HX1 HF1 L1 HP1 HNE HPLn HPE
          go_wp2_with fail
          refine (works12_any _).mono ?_
          rintro e w' ⟨rfl, hb⟩
          have HBE := Lib.hid (kp_call HB.out hb)
          clear hb
          go_wp2
          go_ret
          exact ⟨rfl, HBE.out⟩

theorem purposes_row (k : KC) (A : Option Addr) (n c : Nat) (x : (Nat → Option Addr × Nat × Nat) × (Nat → List Nat)) (a : Int) (w : World) (hk : IsKC w k) (hN : IsNss w A n c x.1 x.2) (wf : (Lit.int .u8 a).wf = true) : Calls Try.prog 8 #[k.val, .slice A n c, .int .u8 a] w fun e w' => e = .returned (.bool true) ∧ Below w.heap.size w w' := by
  have hb := bounds_u8 wf
  obtain ⟨v, rfl⟩ : ∃ v : Nat, a = (v : Int) := ⟨a.toNat, by omega⟩
  by_cases hm : 20 < n
  · exact purposes_big k A n c x.1 x.2 v w hk hm
  · exact purposes_go k A n c x.1 x.2 v w hk (by omega) hN (by omega)
end Go.Proofs.Ytomolfdcdmncoaa
