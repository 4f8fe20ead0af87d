/-
  bank: the row BankNil.
-/
import Derived.Test.YtkajlbdiofobcaaDoorBnX
import Derived.Test.YtkajlbdiofobcaaDoorRows
import Derived.MakeChecks
namespace Go.Proofs.YtkajlbdiofobcaaDoor
open Go.RowKit Go
set_option linter.unusedVariables false
set_option linter.unusedSimpArgs false
set_option maxRecDepth 100000
/-- The row's condition on the two laid tables, opened. -/
theorem of_laid {W : World} (h : laidMetH Tryd.prog Rows.bankNilRow.laid W) : Tabs W := by
  rw [MakeChecks.laidMetH_plain _ _ _ (by kernel_rfl)] at h
  have h1 : Lib.TabIs Tryd.prog W "lintel/crc.table" .u32 tabZ :=
    Lib.tabIs_of_head g_tab (show (Tryd.prog.globals[0]?).map (·.type) = some 112 by kernel_rfl) Tryd.underlying112 Tryd.underlying59 (by kernel_rfl) (by kernel_rfl) h
  have h2 : Lib.TabIs Tryd.prog W "lintel/octet.sizes" .i64 sizesZ :=
    Lib.tabIs_of_head (rest := []) g_sizes (show (Tryd.prog.globals[1]?).map (·.type) = some 113 by kernel_rfl) Tryd.underlying113 Tryd.underlying3 (by kernel_rfl) (by kernel_rfl) h.tail
  exact ⟨⟨by have := World.var?_cell g_tab h1 0; have := World.block_lt_of_cell? W _ (this.trans (show _ = some (.int .u32 0) from rfl)); exact this, h1⟩, ⟨by have := World.var?_cell g_sizes h2 0; have := World.block_lt_of_cell? W _ (this.trans (show _ = some (.int .i64 1) from rfl)); exact this, h2⟩⟩
/-- What does answers where there is nothing, of every kind. -/
theorem does8_nil (o : BOp) (rr : Int) (hrr : (if 0 ≤ o.kd ∧ o.kd ≤ 8 then (2 : Int) else 0) = rr) (w : World) (hK : RB w o.K o.kn o.key) (hV : RB w o.V o.vn o.val) (hk : o.kn ≤ 1000000000) (hn : o.vn ≤ 1000000000) :
    Calls Tryd.prog 12 #[.pointer none, .pointer none, .agg #[.int .i64 o.kd, .int .i64 o.np, .int .i64 o.pt, .slice o.K o.kn o.kc, .slice o.V o.vn o.vc]] w (DoesNil rr w) := by
  subst hrr
  obtain ⟨kd, np, pt, K, kn, kc, V, vn, vc, key, val⟩ := o
  show Calls _ _ #[.pointer none, .pointer none, .agg #[.int .i64 kd, .int .i64 np, .int .i64 pt, .slice K kn kc, .slice V vn vc]] w (DoesNil (if 0 ≤ kd ∧ kd ≤ 8 then 2 else 0) w)
  by_cases h : 0 ≤ kd ∧ kd ≤ 8
  · rw [if_pos h]
    obtain rfl | rfl | rfl | rfl | rfl | rfl | rfl | rfl | rfl : kd = 0 ∨ kd = 1 ∨ kd = 2 ∨ kd = 3 ∨ kd = 4 ∨ kd = 5 ∨ kd = 6 ∨ kd = 7 ∨ kd = 8 := by omega
    · exact does8_nil0 np pt K V kn kc vn vc w
    · exact does8_nil1 np pt K V kn kc vn vc w
    · exact does8_nil2 np pt K V kn kc vn vc w
    · exact does8_nil3 np pt K V kn kc vn vc w
    · exact does8_nil4 np pt K V kn kc vn vc key val w hK hV hk hn
    · exact does8_nil5 np pt K V kn kc vn vc w
    · exact does8_nil6 np pt K V kn kc vn vc w
    · exact does8_nil7 np pt K V kn kc vn vc w
    · exact does8_nil8 np pt K V kn kc vn vc val w hV hn
  · rw [if_neg h]
    exact does8_nilo kd np pt K V kn kc vn vc w h
set_option maxHeartbeats 4000000 in
theorem nil8_row (o : BOp) (fi co : Int) (w : World) (h : IsBOp w o) (w1 : (Lit.int .i64 fi).wf = true) (w2 : (Lit.int .i64 co).wf = true) (ht : Tabs w) :
    Calls Tryd.prog 3 #[o.value, .int .i64 fi, .int .i64 co] w fun e w' => e = .returned (.bool true) ∧ Below w.heap.size w w' := by
  have HK := Lib.hid h.key.rb
  have HV := Lib.hid h.val.rb
  have HT := Lib.hid ht
  obtain ⟨rr, hrr⟩ : ∃ rr : Int, (if 0 ≤ o.kd ∧ o.kd ≤ 8 then (2 : Int) else 0) = rr := ⟨_, rfl⟩
  have HD := Lib.hid (fun (W : World) (hb : Below w.heap.size w W) hk hn => does8_nil o rr hrr W (HK.out.below hb) (HV.out.below hb) hk hn)
  have HW := Lib.hid (fun (W : World) (hb : Below w.heap.size w W) => works8_any W (HT.out.below hb))
  have HRR := Lib.hid hrr
  clear h ht w1 w2 hrr
  obtain ⟨kd, np, pt, K, kn, kc, V, vn, vc, key, val⟩ := o
  show Calls _ _ #[.agg #[.int .i64 kd, .int .i64 np, .int .i64 pt, .slice K kn kc, .slice V vn vc], .int .i64 fi, .int .i64 co] _ _
  go_enter Tryd.func3, Tryd.ntmps3
  go_wp2_with fail
  refine calls_nm fun W hW => ?_
  have hbW : Below w.heap.size w W := by rw [← hW]; exact kp_alloc (kp_alloc (Below.refl _ _) _) _
  have g0 : W.heap[w.heap.size]? = some (.cells #[.int .i64 kd, .int .i64 np, .int .i64 pt, .slice K kn kc, .slice V vn vc] 24) := by rw [← hW]; exact has_alloc (has_new _ _) _
  have g1 : W.heap[w.heap.size + 1]? = some (.cells #[.int .i64 kd, .int .i64 np, .int .i64 pt, .slice K kn kc, .slice V vn vc] 24) := by rw [← hW]; exact has_new' _ _ _ (by simp)
  have hR : OpsB W (some ⟨w.heap.size + 1, 0, none⟩) 1 (fun _ => ⟨kd, np, pt, K, kn, kc, V, vn, vc, key, val⟩) := fun r hr => by
    obtain rfl : r = 0 := by omega
    obtain ⟨a0, a1, a2, a3, a4⟩ := cells_5 g1
    exact ⟨_, _, rfl, block_lt g1, a3, a4⟩
  refine (vast8_any 0 0 0 0 _ 1 1 _ W hR).mono ?_
  rintro e w1 ⟨v, rfl, hv, hb1⟩
  have a0 := has_below g0 hb1
  obtain ⟨b0, b1, b2, b3, b4⟩ := cells_5 a0
  have HB1 := Lib.hid (kp_call hbW hb1)
  clear hW hbW g0 g1 hR hb1
  cases v with
  | true =>
    clear a0 b0 b1 b2 b3 b4 hv
    go_wp2_with fail
    refine (HW.out _ HB1.out).mono ?_
    rintro e w2 ⟨rfl, hb2⟩
    have HB2 := Lib.hid (kp_call HB1.out hb2)
    clear hb2
    go_wp2
    go_ret
    exact ⟨rfl, HB2.out⟩
  | false =>
    obtain ⟨_, _, _, hv⟩ := hv rfl
    obtain ⟨hk, hn⟩ := hv 0 (by omega)
    have A0 := Lib.hid a0
    clear hv a0
    go_wp2_with fail
    refine (atnil_any fi co _).mono ?_
    rintro e w2 ⟨rfl, h2⟩
    subst w2
    go_wp2_with fail
    refine (HD.out _ HB1.out (Nat.le_trans hk (by omega)) (Nat.le_trans hn (by omega))).mono ?_
    rintro e w2 ⟨rfl, hb2⟩
    have a0 := has_below A0.out hb2
    have HB2 := Lib.hid (kp_call HB1.out hb2)
    have hlt := block_lt a0
    have RM := roomnil_any
    clear b0 b1 b2 b3 b4 A0 hb2 HB1 HD hk hn
    go_upto_region 6 with (fail)
    refine wp_nm fun W4 hW4 => ?_
    have q0 : W4.heap[w.heap.size]? = some (.cells #[.int .i64 kd, .int .i64 np, .int .i64 pt, .slice K kn kc, .slice V vn vc] 24) := by rw [← hW4]; exact has_alloc a0 _
    have q1 : W4.heap[w2.heap.size]? = some (.cells #[.slice none 0 0, .int .i64 0, .bool false, .int .i64 rr] 36) := by rw [← hW4]; exact has_new _ _
    have HB4 := Lib.hid (show Below w.heap.size w W4 by rw [← hW4]; exact kp_alloc HB2.out _)
    obtain ⟨b0, b1, b2, b3, b4⟩ := cells_5 q0
    obtain ⟨d0, d1, d2, d3⟩ := cells_4 q1
    clear q0 q1 hW4 a0 hlt HB2
    by_cases hkd : 0 ≤ kd ∧ kd ≤ 8
    · have p1 : decide (kd ≥ 0) = true := decide_eq_true hkd.1
      have p2 : decide (kd ≤ 8) = true := decide_eq_true hkd.2
      obtain rfl : rr = 2 := by have h9 := HRR.out; rw [if_pos hkd] at h9; exact h9.symm
      clear HRR
      clear hkd
      go_wp2_with fail
      refine (RM _).mono ?_
      rintro e w3 ⟨rfl, h3⟩
      subst w3
      go_wp2_with fail
      refine (HW.out _ HB4.out).mono ?_
      rintro e w3 ⟨rfl, hb3⟩
      have HB3 := Lib.hid (kp_call HB4.out hb3)
      clear hb3
      go_wp2
      go_ret
      exact ⟨rfl, HB3.out⟩
    · have p3 : (decide (kd ≥ 0) && decide (kd ≤ 8)) = false := by simp; omega
      obtain rfl : rr = 0 := by have h9 := HRR.out; rw [if_neg hkd] at h9; exact h9.symm
      clear HRR
      by_cases hz : 0 ≤ kd
      · have p1 : decide (kd ≥ 0) = true := decide_eq_true hz
        have p2 : decide (kd ≤ 8) = false := decide_eq_false (by omega)
        clear hkd p3 hz
        go_wp2_with fail
        refine (RM _).mono ?_
        rintro e w3 ⟨rfl, h3⟩
        subst w3
        go_wp2_with fail
        refine (HW.out _ HB4.out).mono ?_
        rintro e w3 ⟨rfl, hb3⟩
        have HB3 := Lib.hid (kp_call HB4.out hb3)
        clear hb3
        go_wp2
        go_ret
        exact ⟨rfl, HB3.out⟩
      · have p1 : decide (kd ≥ 0) = false := decide_eq_false (by omega)
        clear hkd p3 hz
        go_wp2_with fail
        refine (RM _).mono ?_
        rintro e w3 ⟨rfl, h3⟩
        subst w3
        go_wp2_with fail
        refine (HW.out _ HB4.out).mono ?_
        rintro e w3 ⟨rfl, hb3⟩
        have HB3 := Lib.hid (kp_call HB4.out hb3)
        clear hb3
        go_wp2
        go_ret
        exact ⟨rfl, HB3.out⟩
end Go.Proofs.YtkajlbdiofobcaaDoor
