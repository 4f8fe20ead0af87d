/-
  stamp: the document's answer which moment comes first.
-/
import Derived.Test.YtepakdgpaaeelaaDoorStN
import Derived.Test.YtepakdgpaaeelaaDoorStJ
import Derived.Test.YtepakdgpaaeelaaDoorUp
namespace Go.Proofs.YtepakdgpaaeelaaDoor
open Go.RowKit Go
set_option linter.unusedVariables false
set_option maxRecDepth 100000
theorem alloc4_2 (w : World) (a b c d : Obj) : ((((w.alloc a).alloc b).alloc c).alloc d).heap[w.heap.size + 1 + 1]? = some c := by
  rw [heap_alloc_old _ _ (by simp)]
  have := heap_alloc_new ((w.alloc a).alloc b) c
  simpa using this
theorem alloc4_3 (w : World) (a b c d : Obj) : ((((w.alloc a).alloc b).alloc c).alloc d).heap[w.heap.size + 1 + 1 + 1]? = some d := by
  have := heap_alloc_new (((w.alloc a).alloc b).alloc c) d
  simpa using this
theorem below4 (w : World) (a b c d : Obj) : Below w.heap.size w ((((w.alloc a).alloc b).alloc c).alloc d) :=
  ((((Below.refl _ _).alloc (Nat.le_refl _) _).alloc (by simp) _).alloc (by simp; omega) _).alloc (by simp; omega) _
set_option maxHeartbeats 1600000 in
theorem refLess_any (t u : Tm) (w : World) (hy : t.y < 65536) (hu : u.y < 65536) : Calls Tryd.prog 22 #[tmV t, tmV u] w fun e w' => e = .returned (.bool (lessB t u)) ∧ Below w.heap.size w w' := by
  obtain ⟨B, hB⟩ : ∃ B, lessB t u = B := ⟨_, rfl⟩
  rw [hB]
  have HB := Lib.hid hB
  clear hB
  have z0 := t.mo.toNat_lt
  have z1 := t.d.toNat_lt
  have z2 := t.h.toNat_lt
  have z3 := t.mi.toNat_lt
  have z4 := t.s.toNat_lt
  have z5 := u.mo.toNat_lt
  have z6 := u.d.toNat_lt
  have z7 := u.h.toNat_lt
  have z8 := u.mi.toNat_lt
  have z9 := u.s.toNat_lt
  obtain ⟨yt_, mot_, dt_, ht_, mit_, st_⟩ := t
  obtain ⟨yu_, mou_, du_, hu_, miu_, su_⟩ := u
  unfold tmV Tm.cells
  simp only at *
  go_enter Tryd.func22, Tryd.ntmps22
  go_wp2
  refine wp_named fun W1 hW1 => ?_
  have hbw : Below w.heap.size w W1 := below_named hW1 (below4 w _ _ _ _)
  have k5 := heap_named hW1 (alloc4_2 w _ _ _ _)
  have k6 := heap_named hW1 (alloc4_3 w _ _ _ _)
  have tw5 : Two5 W1 (w.heap.size + 1 + 1) (w.heap.size + 1 + 1 + 1) ⟨yt_, mot_, dt_, ht_, mit_, st_⟩ ⟨yu_, mou_, du_, hu_, miu_, su_⟩ :=
    ⟨six (Lib.cell_of_heap k5 0) (Lib.cell_of_heap k5 1) (Lib.cell_of_heap k5 2) (Lib.cell_of_heap k5 3) (Lib.cell_of_heap k5 4) (Lib.cell_of_heap k5 5),
     six (Lib.cell_of_heap k6 0) (Lib.cell_of_heap k6 1) (Lib.cell_of_heap k6 2) (Lib.cell_of_heap k6 3) (Lib.cell_of_heap k6 4) (Lib.cell_of_heap k6 5)⟩
  clear k5 k6 hW1
  generalize (⟨yt_, mot_, dt_, ht_, mit_, st_⟩ : Tm) = T at tw5 HB
  generalize (⟨yu_, mou_, du_, hu_, miu_, su_⟩ : Tm) = U at tw5 HB
  have hL : Hid (B = lessFrom T U 6 0) := HB.out.symm
  clear HB
  go_loopw [7] (fun i wr => ∃ k : Nat, k ≤ 6 ∧ B = lessFrom T U (6 - k) k ∧ i = .int .i64 k ∧ Below w.heap.size w wr ∧ Two5 wr (w.heap.size + 1 + 1) (w.heap.size + 1 + 1 + 1) T U) (fun i _ => 6 - (intOf i).toNat)
  case atStart => exact ⟨0, by omega, hL.out, rfl, hbw, tw5⟩
  case round =>
    obtain ⟨k, hk, hl, rfl, hbr, t5⟩ := hrel
    have K5 := Lib.hid t5.h5
    have K6 := Lib.hid t5.h6
    have T5 := Lib.hid t5
    have HL := Lib.hid hl
    clear t5 hl
    by_cases hlt : k < 6
    · have c5 := K5.out k hlt
      have c6 := K6.out k hlt
      have q1 : (0 : Int) ≤ (k : Int) := by omega
      have q2 : (k : Int) < 6 := by omega
      have hst : Hid (lessFrom T U (6 - k) k = if T.num k = U.num k then lessFrom T U (6 - (k + 1)) (k + 1) else decide (T.num k < U.num k)) := by
        obtain ⟨m, hm⟩ : ∃ m, 6 - k = m + 1 := ⟨5 - k, by omega⟩
        have hm2 : 6 - (k + 1) = m := by omega
        rw [Hid, hm, hm2]
        rfl
      generalize T.num k = x at c5 hst
      generalize U.num k = z at c6 hst
      by_cases hxz : x = z
      · subst hxz
        have hl2 : Hid (B = lessFrom T U (6 - (k + 1)) (k + 1)) := by rw [Hid, HL.out, hst.out, if_pos rfl]
        clear HL hst
        go_wp2
        go_quiet (fail)
        go_wp2
        go_roundw
        case rel => exact ⟨k + 1, by omega, hl2.out, by go_num, below_dn hbr _, T5.out.dn _⟩
        case measure => simp [intOf]; omega
      · have hl2 : Hid (B = decide (x < z)) := by rw [Hid, HL.out, hst.out, if_neg hxz]
        have hd : ((x : Int) == (z : Int)) = false := beq_eq_false_iff_ne.2 (by omega)
        have hd2 : ((x : Int) != (z : Int)) = true := by rw [bne_iff_ne]; omega
        clear HL hst hxz
        go_wp2
        go_quiet (fail)
        go_wp2
        go_quiet (fail)
        go_wp2
        go_ret
        exact ⟨by rw [hl2.out]; simp, below_dn (below_dn hbr _) _⟩
    · obtain rfl : k = 6 := by omega
      have hl2 : Hid (B = false) := by rw [Hid, HL.out]; rfl
      clear HL
      go_wp2
      go_ret
      exact ⟨by rw [hl2.out]; rfl, hbr⟩
end Go.Proofs.YtepakdgpaaeelaaDoor
