/-
  stamp: the moments that bodies tell.
-/
import Derived.Test.YtepakdgpaaeelaaDoorStD
namespace Go.Proofs.YtepakdgpaaeelaaDoor
open Go.RowKit Go
set_option linter.unusedVariables false
set_option maxRecDepth 100000
def utcO (bs : List UInt8) : Option Tm := if bs.length = 13 ∧ bs[12]? = some 90 then numsO (yearU (pairAt bs 0)) (pairAt bs 2) (pairAt bs 4) (pairAt bs 6) (pairAt bs 8) (pairAt bs 10) else none
def genO (bs : List UInt8) : Option Tm := if bs.length = 15 ∧ bs[14]? = some 90 then numsO (yearG (pairAt bs 0) (pairAt bs 2)) (pairAt bs 4) (pairAt bs 6) (pairAt bs 8) (pairAt bs 10) (pairAt bs 12) else none
theorem yearU_le (p q : UInt8) : -1 ≤ yearU (pairI p q) ∧ yearU (pairI p q) ≤ 65535 := by
  have := pairI_le p q
  unfold yearU
  repeat' split
  all_goals omega
theorem yearG_le (p q p' q' : UInt8) : -1 ≤ yearG (pairI p q) (pairI p' q') ∧ yearG (pairI p q) (pairI p' q') ≤ 65535 := by
  have h1 := pairI_le p q
  have h2 := pairI_le p' q'
  unfold yearG
  split
  all_goals omega
theorem utcRead (A : Option Addr) (n c : Nat) (bs : List UInt8) (w : World) (hR : RB w A n bs) (hn : n ≤ 1000000) :
    Calls Tryd.prog 32 #[.slice A n c, .int .i64 13, .func (Fn.func 33) #[] #[]] w fun e w' => e = .returned (optV (utcO bs)) ∧ Below w.heap.size w w' := by
  by_cases h : n = 13 ∧ bs[12]? = some 90
  · have e : utcO bs = numsO (yearU (pairAt bs 0)) (pairAt bs 2) (pairAt bs 4) (pairAt bs 6) (pairAt bs 8) (pairAt bs 10) := if_pos ⟨hR.1.trans h.1, h.2⟩
    rw [e]
    obtain ⟨rfl, hz⟩ := h
    exact read_in 33 A 13 c bs 2 (yearU (pairAt bs 0)) w hR rfl hn hz (yearU_le _ _).1 (yearU_le _ _).2 (fun _ _ => by kernel_rfl) (fun W P0 P1 hN => utcYear_any P0 P1 A 13 c bs W hN (by omega) hn)
  · have e : utcO bs = none := if_neg (fun hh => h ⟨hR.1.symm.trans hh.1, hh.2⟩)
    rw [e]
    refine read_out _ A n c bs 13 w hR hn (by omega) ?_
    by_cases h1 : n = 13
    · right
      refine ⟨bs[12]'(by rw [hR.1]; omega), List.getElem?_eq_getElem _, fun e9 => h ⟨h1, ?_⟩⟩
      rw [List.getElem?_eq_getElem (by rw [hR.1]; omega), e9]
    · exact .inl h1
theorem utc_any (A : Option Addr) (n c : Nat) (bs : List UInt8) (w : World) (hR : RB w A n bs) (hn : n ≤ 1000000) :
    Calls Tryd.prog 15 #[.slice A n c] w fun e w' => e = .returned (optV (utcO bs)) ∧ Below w.heap.size w w' := by
  have RD := utcRead A n c bs (w.alloc (.cells Tm.zero.cells 25)) (hR.alloc _) hn
  have hO : optV (utcO bs) = .tuple #[tmV ((utcO bs).getD Tm.zero), .bool (utcO bs).isSome] := rfl
  rw [hO] at RD ⊢
  generalize (utcO bs).getD Tm.zero = U at RD ⊢
  generalize (utcO bs).isSome = bb at RD ⊢
  obtain ⟨y, mo, d, h', mi, s'⟩ := U
  have RD2 : Hid (Calls Tryd.prog 32 #[.slice A n c, .int .i64 13, .func (Fn.func 33) #[] #[]] (w.alloc (.cells #[.int .u16 0, .int .u8 0, .int .u8 0, .int .u8 0, .int .u8 0, .int .u8 0] 25)) fun e w' => e = .returned (.tuple #[.agg #[.int .u16 (y : Int), .int .u8 (mo.toNat : Int), .int .u8 (d.toNat : Int), .int .u8 (h'.toNat : Int), .int .u8 (mi.toNat : Int), .int .u8 (s'.toNat : Int)], .bool bb]) ∧ Below (w.heap.size + 1) (w.alloc (.cells #[.int .u16 0, .int .u8 0, .int .u8 0, .int .u8 0, .int .u8 0, .int .u8 0] 25)) w') := RD.mono fun _ _ hh => ⟨hh.1, by have h3 := hh.2; rw [World.size_alloc] at h3; exact h3⟩
  have hs : ∀ (W : World) (j : Nat) (u : Value), Below w.heap.size w W → Below w.heap.size w (W.setCell ⟨w.heap.size, j, none⟩ u) := fun W j u hW => hW.setCell (Nat.le_refl _) u
  have HS := Lib.hid hs
  have hb0 : ∀ cs, Below w.heap.size w (w.alloc (.cells cs 25)) := fun cs => (Below.refl _ _).alloc (Nat.le_refl _) _
  clear hO RD hs hR
  go_enter Tryd.func15, Tryd.ntmps15
  go_wp2_with fail
  refine RD2.out.mono ?_
  rintro e w4 ⟨rfl, hb4⟩
  have hzr4 : Hid (w4.heap[w.heap.size]? = some (.cells Tm.zero.cells 25)) := by
    rw [Hid, hb4.block w.heap.size (by omega)]; exact heap_alloc_new w _
  have hbl4 : Below w.heap.size w w4 := (hb0 _).trans (hb4.mono (by omega))
  have q0 : w4.cell? ⟨w.heap.size, 0, none⟩ = some (.int .u16 0) := Lib.cell_of_heap hzr4.out 0
  have f0 : w4.frozen? ⟨w.heap.size, 0, none⟩ = false := Lib.frozen_of_heap hzr4.out 0
  have q1 : w4.cell? ⟨w.heap.size, 1, none⟩ = some (.int .u8 0) := Lib.cell_of_heap hzr4.out 1
  have f1 : w4.frozen? ⟨w.heap.size, 1, none⟩ = false := Lib.frozen_of_heap hzr4.out 1
  have q2 : w4.cell? ⟨w.heap.size, 2, none⟩ = some (.int .u8 0) := Lib.cell_of_heap hzr4.out 2
  have f2 : w4.frozen? ⟨w.heap.size, 2, none⟩ = false := Lib.frozen_of_heap hzr4.out 2
  have q3 : w4.cell? ⟨w.heap.size, 3, none⟩ = some (.int .u8 0) := Lib.cell_of_heap hzr4.out 3
  have f3 : w4.frozen? ⟨w.heap.size, 3, none⟩ = false := Lib.frozen_of_heap hzr4.out 3
  have q4 : w4.cell? ⟨w.heap.size, 4, none⟩ = some (.int .u8 0) := Lib.cell_of_heap hzr4.out 4
  have f4 : w4.frozen? ⟨w.heap.size, 4, none⟩ = false := Lib.frozen_of_heap hzr4.out 4
  have q5 : w4.cell? ⟨w.heap.size, 5, none⟩ = some (.int .u8 0) := Lib.cell_of_heap hzr4.out 5
  have f5 : w4.frozen? ⟨w.heap.size, 5, none⟩ = false := Lib.frozen_of_heap hzr4.out 5
  go_wp2
  refine bodyPost_ret (results_tm rfl _ _ w.heap.size ⟨y, mo, d, h', mi, s'⟩ rfl (heap_set_tm _ _ ⟨y, mo, d, h', mi, s'⟩ Tm.zero hzr4.out)) rfl ?_
  exact ⟨rfl, HS.out _ _ _ (HS.out _ _ _ (HS.out _ _ _ (HS.out _ _ _ (HS.out _ _ _ (HS.out _ _ _ hbl4)))))⟩
theorem genRead (A : Option Addr) (n c : Nat) (bs : List UInt8) (w : World) (hR : RB w A n bs) (hn : n ≤ 1000000) :
    Calls Tryd.prog 32 #[.slice A n c, .int .i64 15, .func (Fn.func 36) #[] #[]] w fun e w' => e = .returned (optV (genO bs)) ∧ Below w.heap.size w w' := by
  by_cases h : n = 15 ∧ bs[14]? = some 90
  · have e : genO bs = numsO (yearG (pairAt bs 0) (pairAt bs 2)) (pairAt bs 4) (pairAt bs 6) (pairAt bs 8) (pairAt bs 10) (pairAt bs 12) := if_pos ⟨hR.1.trans h.1, h.2⟩
    rw [e]
    obtain ⟨rfl, hz⟩ := h
    exact read_in 36 A 15 c bs 4 (yearG (pairAt bs 0) (pairAt bs 2)) w hR rfl hn hz (yearG_le _ _ _ _).1 (yearG_le _ _ _ _).2 (fun _ _ => by kernel_rfl) (fun W P0 P1 hN => genYear_any P0 P1 A 15 c bs W hN (by omega) hn)
  · have e : genO bs = none := if_neg (fun hh => h ⟨hR.1.symm.trans hh.1, hh.2⟩)
    rw [e]
    refine read_out _ A n c bs 15 w hR hn (by omega) ?_
    by_cases h1 : n = 15
    · right
      refine ⟨bs[14]'(by rw [hR.1]; omega), List.getElem?_eq_getElem _, fun e9 => h ⟨h1, ?_⟩⟩
      rw [List.getElem?_eq_getElem (by rw [hR.1]; omega), e9]
    · exact .inl h1
theorem gen_any (A : Option Addr) (n c : Nat) (bs : List UInt8) (w : World) (hR : RB w A n bs) (hn : n ≤ 1000000) :
    Calls Tryd.prog 17 #[.slice A n c] w fun e w' => e = .returned (optV (genO bs)) ∧ Below w.heap.size w w' := by
  have RD := genRead A n c bs (w.alloc (.cells Tm.zero.cells 25)) (hR.alloc _) hn
  have hO : optV (genO bs) = .tuple #[tmV ((genO bs).getD Tm.zero), .bool (genO bs).isSome] := rfl
  rw [hO] at RD ⊢
  generalize (genO bs).getD Tm.zero = U at RD ⊢
  generalize (genO bs).isSome = bb at RD ⊢
  obtain ⟨y, mo, d, h', mi, s'⟩ := U
  have RD2 : Hid (Calls Tryd.prog 32 #[.slice A n c, .int .i64 15, .func (Fn.func 36) #[] #[]] (w.alloc (.cells #[.int .u16 0, .int .u8 0, .int .u8 0, .int .u8 0, .int .u8 0, .int .u8 0] 25)) fun e w' => e = .returned (.tuple #[.agg #[.int .u16 (y : Int), .int .u8 (mo.toNat : Int), .int .u8 (d.toNat : Int), .int .u8 (h'.toNat : Int), .int .u8 (mi.toNat : Int), .int .u8 (s'.toNat : Int)], .bool bb]) ∧ Below (w.heap.size + 1) (w.alloc (.cells #[.int .u16 0, .int .u8 0, .int .u8 0, .int .u8 0, .int .u8 0, .int .u8 0] 25)) w') := RD.mono fun _ _ hh => ⟨hh.1, by have h3 := hh.2; rw [World.size_alloc] at h3; exact h3⟩
  have hs : ∀ (W : World) (j : Nat) (u : Value), Below w.heap.size w W → Below w.heap.size w (W.setCell ⟨w.heap.size, j, none⟩ u) := fun W j u hW => hW.setCell (Nat.le_refl _) u
  have HS := Lib.hid hs
  have hb0 : ∀ cs, Below w.heap.size w (w.alloc (.cells cs 25)) := fun cs => (Below.refl _ _).alloc (Nat.le_refl _) _
  clear hO RD hs hR
  go_enter Tryd.func17, Tryd.ntmps17
  go_wp2_with fail
  refine RD2.out.mono ?_
  rintro e w4 ⟨rfl, hb4⟩
  have hzr4 : Hid (w4.heap[w.heap.size]? = some (.cells Tm.zero.cells 25)) := by
    rw [Hid, hb4.block w.heap.size (by omega)]; exact heap_alloc_new w _
  have hbl4 : Below w.heap.size w w4 := (hb0 _).trans (hb4.mono (by omega))
  have q0 : w4.cell? ⟨w.heap.size, 0, none⟩ = some (.int .u16 0) := Lib.cell_of_heap hzr4.out 0
  have f0 : w4.frozen? ⟨w.heap.size, 0, none⟩ = false := Lib.frozen_of_heap hzr4.out 0
  have q1 : w4.cell? ⟨w.heap.size, 1, none⟩ = some (.int .u8 0) := Lib.cell_of_heap hzr4.out 1
  have f1 : w4.frozen? ⟨w.heap.size, 1, none⟩ = false := Lib.frozen_of_heap hzr4.out 1
  have q2 : w4.cell? ⟨w.heap.size, 2, none⟩ = some (.int .u8 0) := Lib.cell_of_heap hzr4.out 2
  have f2 : w4.frozen? ⟨w.heap.size, 2, none⟩ = false := Lib.frozen_of_heap hzr4.out 2
  have q3 : w4.cell? ⟨w.heap.size, 3, none⟩ = some (.int .u8 0) := Lib.cell_of_heap hzr4.out 3
  have f3 : w4.frozen? ⟨w.heap.size, 3, none⟩ = false := Lib.frozen_of_heap hzr4.out 3
  have q4 : w4.cell? ⟨w.heap.size, 4, none⟩ = some (.int .u8 0) := Lib.cell_of_heap hzr4.out 4
  have f4 : w4.frozen? ⟨w.heap.size, 4, none⟩ = false := Lib.frozen_of_heap hzr4.out 4
  have q5 : w4.cell? ⟨w.heap.size, 5, none⟩ = some (.int .u8 0) := Lib.cell_of_heap hzr4.out 5
  have f5 : w4.frozen? ⟨w.heap.size, 5, none⟩ = false := Lib.frozen_of_heap hzr4.out 5
  go_wp2
  refine bodyPost_ret (results_tm rfl _ _ w.heap.size ⟨y, mo, d, h', mi, s'⟩ rfl (heap_set_tm _ _ ⟨y, mo, d, h', mi, s'⟩ Tm.zero hzr4.out)) rfl ?_
  exact ⟨rfl, HS.out _ _ _ (HS.out _ _ _ (HS.out _ _ _ (HS.out _ _ _ (HS.out _ _ _ (HS.out _ _ _ hbl4)))))⟩
end Go.Proofs.YtepakdgpaaeelaaDoor
