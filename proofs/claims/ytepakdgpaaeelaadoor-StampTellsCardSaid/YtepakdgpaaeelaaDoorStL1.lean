/-
  stamp: the statement on hours.
-/
import Derived.Test.YtepakdgpaaeelaaDoorStW
import Derived.Test.YtepakdgpaaeelaaDoorUp
import Derived.Test.YtepakdgpaaeelaaDoorRows
import Derived.MakeChecks
namespace Go.Proofs.YtepakdgpaaeelaaDoor
open Go.RowKit Go
set_option linter.unusedVariables false
set_option maxRecDepth 100000
/-- WHAT THE ROWS' CONDITION GIVES THE WALKS. -/
theorem of_laid {W : World} (h : laidMetH Tryd.prog Rows.stampHoursRow.laid W) : Sizes W := by
  rw [MakeChecks.laidMetH_plain _ _ _ (by kernel_rfl)] at h
  have ht : Lib.TabIs Tryd.prog W "lintel/octet.sizes" .i64 sizesZ :=
    Lib.tabIs_of_head (rest := []) g_sizes (show (Tryd.prog.globals[0]?).map (·.type) = some 69 by kernel_rfl) Tryd.underlying69 Tryd.underlying3 (by kernel_rfl) (by kernel_rfl) h
  exact ⟨by have := World.var?_cell g_sizes ht 0; have := World.block_lt_of_cell? W _ (this.trans (show _ = some (.int .i64 1) from rfl)); exact this, ht⟩
def Tm.day (t : Tm) : Tm := ⟨t.y, t.mo, t.d, 0, 0, 0⟩
theorem right_day (t : Tm) : rightB t = (rightB t.day && (decide (t.h.toNat < 24) && (decide (t.mi.toNat < 60) && decide (t.s.toNat < 60)))) := by
  unfold rightB Tm.day
  rw [Bool.eq_iff_iff]
  simp
  omega
theorem hours_row (t : Tm) (w : World) (hy : IsTm w t) (hT : Sizes w) :
    Calls Tryd.prog 8 #[tmV t] w fun e w' => e = .returned (.bool true) ∧ Below w.heap.size w w' := by
  have hy' : t.y < 65536 := hy
  have WK := Lib.hid (fun W (h : Sizes W) => works_any W h)
  have RT := Lib.hid (fun W => right_any t W hy')
  have RD := Lib.hid (fun W => right_any t.day W hy')
  have hR := right_day t
  have b1 := t.h.toNat_lt
  have b2 := t.mi.toNat_lt
  have b3 := t.s.toNat_lt
  generalize rightB t = R at RT hR
  generalize rightB t.day = D at RD hR
  unfold tmV Tm.cells Tm.day at *
  obtain ⟨y, mo, d, h', mi, s'⟩ := t
  simp only at *
  have hc : (D = false ∧ R = false) ∨ (D = true ∧ R = false ∧ 24 ≤ h'.toNat) ∨ (D = true ∧ R = false ∧ h'.toNat < 24 ∧ 60 ≤ mi.toNat) ∨ (D = true ∧ R = false ∧ h'.toNat < 24 ∧ mi.toNat < 60 ∧ 60 ≤ s'.toNat) ∨ (D = true ∧ R = true ∧ h'.toNat < 24 ∧ mi.toNat < 60 ∧ s'.toNat < 60) := by
    subst hR
    cases D
    · exact .inl ⟨rfl, rfl⟩
    · by_cases p1 : h'.toNat < 24
      · by_cases p2 : mi.toNat < 60
        · by_cases p3 : s'.toNat < 60
          · exact .inr (.inr (.inr (.inr ⟨rfl, by simp [p1, p2, p3], p1, p2, p3⟩)))
          · exact .inr (.inr (.inr (.inl ⟨rfl, by simp [p3], p1, p2, by omega⟩)))
        · exact .inr (.inr (.inl ⟨rfl, by simp [p2], p1, by omega⟩))
      · exact .inr (.inl ⟨rfl, by simp [p1], by omega⟩)
  clear hR
  have D1 : ∀ n k : Nat, n < k → decide ((n : Int) < (k : Int)) = true := fun _ _ h => decide_eq_true (by omega)
  have D2 : ∀ n k : Nat, k ≤ n → decide ((n : Int) < (k : Int)) = false := fun _ _ h => decide_eq_false (by omega)
  have H1 := Lib.hid D1
  have H2 := Lib.hid D2
  clear D1 D2
  rcases hc with ⟨rfl, rfl⟩ | ⟨rfl, rfl, p1⟩ | ⟨rfl, rfl, p1, p2⟩ | ⟨rfl, rfl, p1, p2, p3⟩ | ⟨rfl, rfl, p1, p2, p3⟩
  · clear H1 H2
    go_enter Tryd.func8, Tryd.ntmps8
    go_wp2
    refine wp_named fun W1 hW1 => ?_
    have k0 := heap_named hW1 (heap_alloc2_old w _ _)
    have k1 := heap_named hW1 (heap_alloc2_new w _ _)
    have hbW : Below w.heap.size w W1 := below_named hW1 (((Below.refl _ _).alloc (Nat.le_refl _) _).alloc (by simp) _)
    have HS1 := Lib.hid (hT.below' hbW)
    have hsW := hbW.size
    have c0 : ∀ x : Up W1, x.w.cell? ⟨w.heap.size, 0, none⟩ = some (.int .u16 (y : Int)) := fun x => Lib.cell_of_heap (x.heap k0) 0
    have c1 : ∀ x : Up W1, x.w.cell? ⟨w.heap.size, 1, none⟩ = some (.int .u8 (mo.toNat : Int)) := fun x => Lib.cell_of_heap (x.heap k0) 1
    have c2 : ∀ x : Up W1, x.w.cell? ⟨w.heap.size, 2, none⟩ = some (.int .u8 (d.toNat : Int)) := fun x => Lib.cell_of_heap (x.heap k0) 2
    have c3 : ∀ x : Up W1, x.w.cell? ⟨w.heap.size, 3, none⟩ = some (.int .u8 (h'.toNat : Int)) := fun x => Lib.cell_of_heap (x.heap k0) 3
    have c4 : ∀ x : Up W1, x.w.cell? ⟨w.heap.size, 4, none⟩ = some (.int .u8 (mi.toNat : Int)) := fun x => Lib.cell_of_heap (x.heap k0) 4
    have c5 : ∀ x : Up W1, x.w.cell? ⟨w.heap.size, 5, none⟩ = some (.int .u8 (s'.toNat : Int)) := fun x => Lib.cell_of_heap (x.heap k0) 5
    have e0 : ∀ x : Up W1, x.w.cell? ⟨w.heap.size + 1, 0, none⟩ = some (.int .u16 (y : Int)) := fun x => Lib.cell_of_heap (x.heap k1) 0
    have e1 : ∀ x : Up W1, x.w.cell? ⟨w.heap.size + 1, 1, none⟩ = some (.int .u8 (mo.toNat : Int)) := fun x => Lib.cell_of_heap (x.heap k1) 1
    have e2 : ∀ x : Up W1, x.w.cell? ⟨w.heap.size + 1, 2, none⟩ = some (.int .u8 (d.toNat : Int)) := fun x => Lib.cell_of_heap (x.heap k1) 2
    have e3 : ∀ x : Up W1, x.w.cell? ⟨w.heap.size + 1, 3, none⟩ = some (.int .u8 0) := fun x => Lib.cell_of_heap (x.heap k1) 3
    have e4 : ∀ x : Up W1, x.w.cell? ⟨w.heap.size + 1, 4, none⟩ = some (.int .u8 0) := fun x => Lib.cell_of_heap (x.heap k1) 4
    have e5 : ∀ x : Up W1, x.w.cell? ⟨w.heap.size + 1, 5, none⟩ = some (.int .u8 0) := fun x => Lib.cell_of_heap (x.heap k1) 5
    clear k0 k1 hW1
    refine wp_region_up (by kernel_rfl) (by kernel_rfl) ?_
    repeat (go_big_quiet_step (first
      | (go_at_call_of 19 (Value.agg #[.int .u16 (y : Int), .int .u8 (mo.toNat : Int), .int .u8 (d.toNat : Int), .int .u8 (h'.toNat : Int), .int .u8 (mi.toNat : Int), .int .u8 (s'.toNat : Int)]); exact Up.calls (RT.out _))
      | (go_at_call_of 19 (Value.agg #[.int .u16 (y : Int), .int .u8 (mo.toNat : Int), .int .u8 (d.toNat : Int), .int .u8 0, .int .u8 0, .int .u8 0]); exact Up.calls (RD.out _))
      | (go_at_call 13; exact Up.calls (WK.out _ (HS1.out.below' (Up.b _))))))
    refine wpQuiet_nil ?_
    rintro _ ⟨x, rfl⟩
    have hbx := x.b
    go_wp2
    go_ret
    exact ⟨rfl, hbW.trans (hbx.mono hsW)⟩
  · have q1 : decide ((h'.toNat : Int) < 24) = false := H2.out _ _ p1
    clear H1 H2
    go_enter Tryd.func8, Tryd.ntmps8
    go_wp2
    refine wp_named fun W1 hW1 => ?_
    have k0 := heap_named hW1 (heap_alloc2_old w _ _)
    have k1 := heap_named hW1 (heap_alloc2_new w _ _)
    have hbW : Below w.heap.size w W1 := below_named hW1 (((Below.refl _ _).alloc (Nat.le_refl _) _).alloc (by simp) _)
    have HS1 := Lib.hid (hT.below' hbW)
    have hsW := hbW.size
    have c0 : ∀ x : Up W1, x.w.cell? ⟨w.heap.size, 0, none⟩ = some (.int .u16 (y : Int)) := fun x => Lib.cell_of_heap (x.heap k0) 0
    have c1 : ∀ x : Up W1, x.w.cell? ⟨w.heap.size, 1, none⟩ = some (.int .u8 (mo.toNat : Int)) := fun x => Lib.cell_of_heap (x.heap k0) 1
    have c2 : ∀ x : Up W1, x.w.cell? ⟨w.heap.size, 2, none⟩ = some (.int .u8 (d.toNat : Int)) := fun x => Lib.cell_of_heap (x.heap k0) 2
    have c3 : ∀ x : Up W1, x.w.cell? ⟨w.heap.size, 3, none⟩ = some (.int .u8 (h'.toNat : Int)) := fun x => Lib.cell_of_heap (x.heap k0) 3
    have c4 : ∀ x : Up W1, x.w.cell? ⟨w.heap.size, 4, none⟩ = some (.int .u8 (mi.toNat : Int)) := fun x => Lib.cell_of_heap (x.heap k0) 4
    have c5 : ∀ x : Up W1, x.w.cell? ⟨w.heap.size, 5, none⟩ = some (.int .u8 (s'.toNat : Int)) := fun x => Lib.cell_of_heap (x.heap k0) 5
    have e0 : ∀ x : Up W1, x.w.cell? ⟨w.heap.size + 1, 0, none⟩ = some (.int .u16 (y : Int)) := fun x => Lib.cell_of_heap (x.heap k1) 0
    have e1 : ∀ x : Up W1, x.w.cell? ⟨w.heap.size + 1, 1, none⟩ = some (.int .u8 (mo.toNat : Int)) := fun x => Lib.cell_of_heap (x.heap k1) 1
    have e2 : ∀ x : Up W1, x.w.cell? ⟨w.heap.size + 1, 2, none⟩ = some (.int .u8 (d.toNat : Int)) := fun x => Lib.cell_of_heap (x.heap k1) 2
    have e3 : ∀ x : Up W1, x.w.cell? ⟨w.heap.size + 1, 3, none⟩ = some (.int .u8 0) := fun x => Lib.cell_of_heap (x.heap k1) 3
    have e4 : ∀ x : Up W1, x.w.cell? ⟨w.heap.size + 1, 4, none⟩ = some (.int .u8 0) := fun x => Lib.cell_of_heap (x.heap k1) 4
    have e5 : ∀ x : Up W1, x.w.cell? ⟨w.heap.size + 1, 5, none⟩ = some (.int .u8 0) := fun x => Lib.cell_of_heap (x.heap k1) 5
    clear k0 k1 hW1
    refine wp_region_up (by kernel_rfl) (by kernel_rfl) ?_
    repeat (go_big_quiet_step (first
      | (go_at_call_of 19 (Value.agg #[.int .u16 (y : Int), .int .u8 (mo.toNat : Int), .int .u8 (d.toNat : Int), .int .u8 (h'.toNat : Int), .int .u8 (mi.toNat : Int), .int .u8 (s'.toNat : Int)]); exact Up.calls (RT.out _))
      | (go_at_call_of 19 (Value.agg #[.int .u16 (y : Int), .int .u8 (mo.toNat : Int), .int .u8 (d.toNat : Int), .int .u8 0, .int .u8 0, .int .u8 0]); exact Up.calls (RD.out _))
      | (go_at_call 13; exact Up.calls (WK.out _ (HS1.out.below' (Up.b _))))))
    refine wpQuiet_nil ?_
    rintro _ ⟨x, rfl⟩
    have hbx := x.b
    go_wp2
    go_ret
    exact ⟨rfl, hbW.trans (hbx.mono hsW)⟩
  · have q1 : decide ((h'.toNat : Int) < 24) = true := H1.out _ _ p1
    have q2 : decide ((mi.toNat : Int) < 60) = false := H2.out _ _ p2
    clear H1 H2
    go_enter Tryd.func8, Tryd.ntmps8
    go_wp2
    refine wp_named fun W1 hW1 => ?_
    have k0 := heap_named hW1 (heap_alloc2_old w _ _)
    have k1 := heap_named hW1 (heap_alloc2_new w _ _)
    have hbW : Below w.heap.size w W1 := below_named hW1 (((Below.refl _ _).alloc (Nat.le_refl _) _).alloc (by simp) _)
    have HS1 := Lib.hid (hT.below' hbW)
    have hsW := hbW.size
    have c0 : ∀ x : Up W1, x.w.cell? ⟨w.heap.size, 0, none⟩ = some (.int .u16 (y : Int)) := fun x => Lib.cell_of_heap (x.heap k0) 0
    have c1 : ∀ x : Up W1, x.w.cell? ⟨w.heap.size, 1, none⟩ = some (.int .u8 (mo.toNat : Int)) := fun x => Lib.cell_of_heap (x.heap k0) 1
    have c2 : ∀ x : Up W1, x.w.cell? ⟨w.heap.size, 2, none⟩ = some (.int .u8 (d.toNat : Int)) := fun x => Lib.cell_of_heap (x.heap k0) 2
    have c3 : ∀ x : Up W1, x.w.cell? ⟨w.heap.size, 3, none⟩ = some (.int .u8 (h'.toNat : Int)) := fun x => Lib.cell_of_heap (x.heap k0) 3
    have c4 : ∀ x : Up W1, x.w.cell? ⟨w.heap.size, 4, none⟩ = some (.int .u8 (mi.toNat : Int)) := fun x => Lib.cell_of_heap (x.heap k0) 4
    have c5 : ∀ x : Up W1, x.w.cell? ⟨w.heap.size, 5, none⟩ = some (.int .u8 (s'.toNat : Int)) := fun x => Lib.cell_of_heap (x.heap k0) 5
    have e0 : ∀ x : Up W1, x.w.cell? ⟨w.heap.size + 1, 0, none⟩ = some (.int .u16 (y : Int)) := fun x => Lib.cell_of_heap (x.heap k1) 0
    have e1 : ∀ x : Up W1, x.w.cell? ⟨w.heap.size + 1, 1, none⟩ = some (.int .u8 (mo.toNat : Int)) := fun x => Lib.cell_of_heap (x.heap k1) 1
    have e2 : ∀ x : Up W1, x.w.cell? ⟨w.heap.size + 1, 2, none⟩ = some (.int .u8 (d.toNat : Int)) := fun x => Lib.cell_of_heap (x.heap k1) 2
    have e3 : ∀ x : Up W1, x.w.cell? ⟨w.heap.size + 1, 3, none⟩ = some (.int .u8 0) := fun x => Lib.cell_of_heap (x.heap k1) 3
    have e4 : ∀ x : Up W1, x.w.cell? ⟨w.heap.size + 1, 4, none⟩ = some (.int .u8 0) := fun x => Lib.cell_of_heap (x.heap k1) 4
    have e5 : ∀ x : Up W1, x.w.cell? ⟨w.heap.size + 1, 5, none⟩ = some (.int .u8 0) := fun x => Lib.cell_of_heap (x.heap k1) 5
    clear k0 k1 hW1
    refine wp_region_up (by kernel_rfl) (by kernel_rfl) ?_
    repeat (go_big_quiet_step (first
      | (go_at_call_of 19 (Value.agg #[.int .u16 (y : Int), .int .u8 (mo.toNat : Int), .int .u8 (d.toNat : Int), .int .u8 (h'.toNat : Int), .int .u8 (mi.toNat : Int), .int .u8 (s'.toNat : Int)]); exact Up.calls (RT.out _))
      | (go_at_call_of 19 (Value.agg #[.int .u16 (y : Int), .int .u8 (mo.toNat : Int), .int .u8 (d.toNat : Int), .int .u8 0, .int .u8 0, .int .u8 0]); exact Up.calls (RD.out _))
      | (go_at_call 13; exact Up.calls (WK.out _ (HS1.out.below' (Up.b _))))))
    refine wpQuiet_nil ?_
    rintro _ ⟨x, rfl⟩
    have hbx := x.b
    go_wp2
    go_ret
    exact ⟨rfl, hbW.trans (hbx.mono hsW)⟩
  · have q1 : decide ((h'.toNat : Int) < 24) = true := H1.out _ _ p1
    have q2 : decide ((mi.toNat : Int) < 60) = true := H1.out _ _ p2
    have q3 : decide ((s'.toNat : Int) < 60) = false := H2.out _ _ p3
    clear H1 H2
    go_enter Tryd.func8, Tryd.ntmps8
    go_wp2
    refine wp_named fun W1 hW1 => ?_
    have k0 := heap_named hW1 (heap_alloc2_old w _ _)
    have k1 := heap_named hW1 (heap_alloc2_new w _ _)
    have hbW : Below w.heap.size w W1 := below_named hW1 (((Below.refl _ _).alloc (Nat.le_refl _) _).alloc (by simp) _)
    have HS1 := Lib.hid (hT.below' hbW)
    have hsW := hbW.size
    have c0 : ∀ x : Up W1, x.w.cell? ⟨w.heap.size, 0, none⟩ = some (.int .u16 (y : Int)) := fun x => Lib.cell_of_heap (x.heap k0) 0
    have c1 : ∀ x : Up W1, x.w.cell? ⟨w.heap.size, 1, none⟩ = some (.int .u8 (mo.toNat : Int)) := fun x => Lib.cell_of_heap (x.heap k0) 1
    have c2 : ∀ x : Up W1, x.w.cell? ⟨w.heap.size, 2, none⟩ = some (.int .u8 (d.toNat : Int)) := fun x => Lib.cell_of_heap (x.heap k0) 2
    have c3 : ∀ x : Up W1, x.w.cell? ⟨w.heap.size, 3, none⟩ = some (.int .u8 (h'.toNat : Int)) := fun x => Lib.cell_of_heap (x.heap k0) 3
    have c4 : ∀ x : Up W1, x.w.cell? ⟨w.heap.size, 4, none⟩ = some (.int .u8 (mi.toNat : Int)) := fun x => Lib.cell_of_heap (x.heap k0) 4
    have c5 : ∀ x : Up W1, x.w.cell? ⟨w.heap.size, 5, none⟩ = some (.int .u8 (s'.toNat : Int)) := fun x => Lib.cell_of_heap (x.heap k0) 5
    have e0 : ∀ x : Up W1, x.w.cell? ⟨w.heap.size + 1, 0, none⟩ = some (.int .u16 (y : Int)) := fun x => Lib.cell_of_heap (x.heap k1) 0
    have e1 : ∀ x : Up W1, x.w.cell? ⟨w.heap.size + 1, 1, none⟩ = some (.int .u8 (mo.toNat : Int)) := fun x => Lib.cell_of_heap (x.heap k1) 1
    have e2 : ∀ x : Up W1, x.w.cell? ⟨w.heap.size + 1, 2, none⟩ = some (.int .u8 (d.toNat : Int)) := fun x => Lib.cell_of_heap (x.heap k1) 2
    have e3 : ∀ x : Up W1, x.w.cell? ⟨w.heap.size + 1, 3, none⟩ = some (.int .u8 0) := fun x => Lib.cell_of_heap (x.heap k1) 3
    have e4 : ∀ x : Up W1, x.w.cell? ⟨w.heap.size + 1, 4, none⟩ = some (.int .u8 0) := fun x => Lib.cell_of_heap (x.heap k1) 4
    have e5 : ∀ x : Up W1, x.w.cell? ⟨w.heap.size + 1, 5, none⟩ = some (.int .u8 0) := fun x => Lib.cell_of_heap (x.heap k1) 5
    clear k0 k1 hW1
    refine wp_region_up (by kernel_rfl) (by kernel_rfl) ?_
    repeat (go_big_quiet_step (first
      | (go_at_call_of 19 (Value.agg #[.int .u16 (y : Int), .int .u8 (mo.toNat : Int), .int .u8 (d.toNat : Int), .int .u8 (h'.toNat : Int), .int .u8 (mi.toNat : Int), .int .u8 (s'.toNat : Int)]); exact Up.calls (RT.out _))
      | (go_at_call_of 19 (Value.agg #[.int .u16 (y : Int), .int .u8 (mo.toNat : Int), .int .u8 (d.toNat : Int), .int .u8 0, .int .u8 0, .int .u8 0]); exact Up.calls (RD.out _))
      | (go_at_call 13; exact Up.calls (WK.out _ (HS1.out.below' (Up.b _))))))
    refine wpQuiet_nil ?_
    rintro _ ⟨x, rfl⟩
    have hbx := x.b
    go_wp2
    go_ret
    exact ⟨rfl, hbW.trans (hbx.mono hsW)⟩
  · have q1 : decide ((h'.toNat : Int) < 24) = true := H1.out _ _ p1
    have q2 : decide ((mi.toNat : Int) < 60) = true := H1.out _ _ p2
    have q3 : decide ((s'.toNat : Int) < 60) = true := H1.out _ _ p3
    clear H1 H2
    go_enter Tryd.func8, Tryd.ntmps8
    go_wp2
    refine wp_named fun W1 hW1 => ?_
    have k0 := heap_named hW1 (heap_alloc2_old w _ _)
    have k1 := heap_named hW1 (heap_alloc2_new w _ _)
    have hbW : Below w.heap.size w W1 := below_named hW1 (((Below.refl _ _).alloc (Nat.le_refl _) _).alloc (by simp) _)
    have HS1 := Lib.hid (hT.below' hbW)
    have hsW := hbW.size
    have c0 : ∀ x : Up W1, x.w.cell? ⟨w.heap.size, 0, none⟩ = some (.int .u16 (y : Int)) := fun x => Lib.cell_of_heap (x.heap k0) 0
    have c1 : ∀ x : Up W1, x.w.cell? ⟨w.heap.size, 1, none⟩ = some (.int .u8 (mo.toNat : Int)) := fun x => Lib.cell_of_heap (x.heap k0) 1
    have c2 : ∀ x : Up W1, x.w.cell? ⟨w.heap.size, 2, none⟩ = some (.int .u8 (d.toNat : Int)) := fun x => Lib.cell_of_heap (x.heap k0) 2
    have c3 : ∀ x : Up W1, x.w.cell? ⟨w.heap.size, 3, none⟩ = some (.int .u8 (h'.toNat : Int)) := fun x => Lib.cell_of_heap (x.heap k0) 3
    have c4 : ∀ x : Up W1, x.w.cell? ⟨w.heap.size, 4, none⟩ = some (.int .u8 (mi.toNat : Int)) := fun x => Lib.cell_of_heap (x.heap k0) 4
    have c5 : ∀ x : Up W1, x.w.cell? ⟨w.heap.size, 5, none⟩ = some (.int .u8 (s'.toNat : Int)) := fun x => Lib.cell_of_heap (x.heap k0) 5
    have e0 : ∀ x : Up W1, x.w.cell? ⟨w.heap.size + 1, 0, none⟩ = some (.int .u16 (y : Int)) := fun x => Lib.cell_of_heap (x.heap k1) 0
    have e1 : ∀ x : Up W1, x.w.cell? ⟨w.heap.size + 1, 1, none⟩ = some (.int .u8 (mo.toNat : Int)) := fun x => Lib.cell_of_heap (x.heap k1) 1
    have e2 : ∀ x : Up W1, x.w.cell? ⟨w.heap.size + 1, 2, none⟩ = some (.int .u8 (d.toNat : Int)) := fun x => Lib.cell_of_heap (x.heap k1) 2
    have e3 : ∀ x : Up W1, x.w.cell? ⟨w.heap.size + 1, 3, none⟩ = some (.int .u8 0) := fun x => Lib.cell_of_heap (x.heap k1) 3
    have e4 : ∀ x : Up W1, x.w.cell? ⟨w.heap.size + 1, 4, none⟩ = some (.int .u8 0) := fun x => Lib.cell_of_heap (x.heap k1) 4
    have e5 : ∀ x : Up W1, x.w.cell? ⟨w.heap.size + 1, 5, none⟩ = some (.int .u8 0) := fun x => Lib.cell_of_heap (x.heap k1) 5
    clear k0 k1 hW1
    refine wp_region_up (by kernel_rfl) (by kernel_rfl) ?_
    repeat (go_big_quiet_step (first
      | (go_at_call_of 19 (Value.agg #[.int .u16 (y : Int), .int .u8 (mo.toNat : Int), .int .u8 (d.toNat : Int), .int .u8 (h'.toNat : Int), .int .u8 (mi.toNat : Int), .int .u8 (s'.toNat : Int)]); exact Up.calls (RT.out _))
      | (go_at_call_of 19 (Value.agg #[.int .u16 (y : Int), .int .u8 (mo.toNat : Int), .int .u8 (d.toNat : Int), .int .u8 0, .int .u8 0, .int .u8 0]); exact Up.calls (RD.out _))
      | (go_at_call 13; exact Up.calls (WK.out _ (HS1.out.below' (Up.b _))))))
    refine wpQuiet_nil ?_
    rintro _ ⟨x, rfl⟩
    have hbx := x.b
    go_wp2
    go_ret
    exact ⟨rfl, hbW.trans (hbx.mono hsW)⟩
end Go.Proofs.YtepakdgpaaeelaaDoor
