/-
  stamp: the moment of digits and a Z.
-/
import Derived.Test.YtepakdgpaaeelaaDoorStC
namespace Go.Proofs.YtepakdgpaaeelaaDoor
open Go.RowKit Go
set_option linter.unusedVariables false
set_option maxRecDepth 100000
theorem pairs_any (A : Option Addr) (n c : Nat) (bs : List UInt8) (w : World) (hR : RB w A n bs) :
    Calls Tryd.prog 44 #[.slice A n c] w fun e w' => e = .returned (.func (Fn.func 51) #[] #[.pointer (some ⟨w.heap.size, 0, none⟩), .pointer (some ⟨w.heap.size + 1, 0, none⟩)]) ∧ Next w' w.heap.size (w.heap.size + 1) A n c bs 0 ∧ Below w.heap.size w w' ∧ w'.heap.size = w.heap.size + 2 := by
  have hN : Next ((w.alloc (.cells #[.slice A n c] 22)).alloc (.cells #[.int .i64 0] 3)) w.heap.size (w.heap.size + 1) A n c bs 0 := by
    refine ⟨by omega, by simp, hR.1, (hR.2.alloc (Nat.le_refl _) _).alloc (by simp) _, ?_, ?_, ?_⟩
    · simp
    · simp
    · simp
  have hb : Below w.heap.size w ((w.alloc (.cells #[.slice A n c] 22)).alloc (.cells #[.int .i64 0] 3)) := ((Below.refl _ _).alloc (Nat.le_refl _) _).alloc (by simp) _
  have HN := Lib.hid hN
  clear hN hR
  go_enter Tryd.func44, Tryd.ntmps44
  go_wp2
  go_ret
  exact ⟨rfl, HN.out, hb, by simp⟩
/-- The moment of a year and five numbers. -/
def tmOf (yv z1 z2 z3 z4 z5 : Int) : Tm := ⟨yv.toNat, UInt8.ofNat z1.toNat, UInt8.ofNat z2.toNat, UInt8.ofNat z3.toNat, UInt8.ofNat z4.toNat, UInt8.ofNat z5.toNat⟩
def numsO (yv z1 z2 z3 z4 z5 : Int) : Option Tm := if 0 ≤ yv ∧ 0 ≤ z1 ∧ 0 ≤ z2 ∧ 0 ≤ z3 ∧ 0 ≤ z4 ∧ 0 ≤ z5 then rightO (tmOf yv z1 z2 z3 z4 z5) else none
theorem byte_back (z : Int) (h0 : 0 ≤ z) (h1 : z ≤ 99) : ((UInt8.ofNat z.toNat).toNat : Int) = z := by
  rw [UInt8.toNat_ofNat']
  omega
theorem tmOf_parts {yv z1 z2 z3 z4 z5 : Int} (h0 : 0 ≤ yv) (h1 : 0 ≤ z1 ∧ z1 ≤ 99) (h2 : 0 ≤ z2 ∧ z2 ≤ 99) (h3 : 0 ≤ z3 ∧ z3 ≤ 99) (h4 : 0 ≤ z4 ∧ z4 ≤ 99) (h5 : 0 ≤ z5 ∧ z5 ≤ 99) :
    partsV (tmOf yv z1 z2 z3 z4 z5) = .agg #[.int .i64 yv, .int .i64 z1, .int .i64 z2, .int .i64 z3, .int .i64 z4, .int .i64 z5] := by
  unfold partsV tmOf
  simp only [byte_back _ h1.1 h1.2, byte_back _ h2.1 h2.2, byte_back _ h3.1 h3.2, byte_back _ h4.1 h4.2, byte_back _ h5.1 h5.2, Int.toNat_of_nonneg h0]
def rowP (yv : Int) (z : Nat → Int) (i : Nat) : Array Value := #[.int .i64 yv, .int .i64 (if 1 < i then z 1 else 0), .int .i64 (if 2 < i then z 2 else 0), .int .i64 (if 3 < i then z 3 else 0), .int .i64 (if 4 < i then z 4 else 0), .int .i64 (if 5 < i then z 5 else 0)]
theorem rowP_set (yv : Int) (z : Nat → Int) (i : Nat) (h1 : 1 ≤ i) (h2 : i < 6) : (rowP yv z i).setIfInBounds i (.int .i64 (z i)) = rowP yv z (i + 1) := by
  have : i = 1 ∨ i = 2 ∨ i = 3 ∨ i = 4 ∨ i = 5 := by omega
  rcases this with rfl | rfl | rfl | rfl | rfl <;> rfl
theorem grown_set0 (w : World) (g j : Nat) (u : Value) : w.grownBy (w.setCell ⟨g, j, none⟩ u) (some g) :=
  ⟨rfl, rfl, rfl, by simp [World.setCell], fun k _ hk => Below.heap_setCell w ⟨g, j, none⟩ u k (fun e => hk (by rw [e]))⟩
theorem read_in (F : Nat) (A : Option Addr) (n c : Nat) (bs : List UInt8) (ky : Nat) (yv : Int) (w : World) (hR : RB w A n bs) (hnk : n = ky + 11) (hn : n ≤ 1000000) (hz : bs[n - 1]? = some 90) (hy1 : -1 ≤ yv) (hy2 : yv ≤ 65535)
    (hC : ∀ (args : Array Value) (w : World), (callFunc F args).run Tryd.prog w = .ok (.enter F args) w)
    (hY : ∀ W P0 P1, Next W P0 P1 A n c bs 0 → Calls Tryd.prog F #[.func (Fn.func 51) #[] #[.pointer (some ⟨P0, 0, none⟩), .pointer (some ⟨P1, 0, none⟩)]] W fun e w' => e = .returned (.int .i64 yv) ∧ Next w' P0 P1 A n c bs ky ∧ W.grownBy w' (some P1)) :
    Calls Tryd.prog 32 #[.slice A n c, .int .i64 (n : Int), .func (Fn.func F) #[] #[]] w fun e w' => e = .returned (optV (numsO yv (pairAt bs ky) (pairAt bs (ky + 2)) (pairAt bs (ky + 4)) (pairAt bs (ky + 6)) (pairAt bs (ky + 8)))) ∧ Below w.heap.size w w' := by
  have PR := Lib.hid (fun W (h : RB W A n bs) => pairs_any A n c bs W h)
  have NX := Lib.hid (fun W P0 P1 k (h : Next W P0 P1 A n c bs k) (h2 : k + 2 ≤ n) => next_any P0 P1 A n c bs k W h h2 hn)
  have HY := Lib.hid hY
  obtain ⟨b, off, q, rfl, hb, hq, hcq⟩ := hR.at_ (k := n - 1) (by omega)
  rw [hz] at hq
  injection hq with hq
  subst hq
  have hcq : w.cell? ⟨b, off + (n - 1), none⟩ = some (.int .u8 90) := hcq
  have hn1 : ky + 11 ≤ n := by omega
  have hn2 : n ≤ ky + 11 := by omega
  have hR0 := Lib.hid hR
  clear hY hz hnk hR
  go_enter Tryd.func32, Tryd.ntmps32
  go_wp2_with fail
  refine (PR.out _ (hR0.out.alloc _)).mono ?_
  rintro e w1 ⟨rfl, hN1, hb1, hs1⟩
  have hs1' : w1.heap.size = w.heap.size + 3 := by rw [hs1]; simp
  simp only [World.size_alloc] at hN1
  have hbw1 : Below w.heap.size w w1 := ((Below.refl _ _).alloc (Nat.le_refl _) _).trans (hb1.mono (by simp))
  have hz0 : Hid (w1.heap[w.heap.size]? = some (.cells Tm.zero.cells 25)) := (hb1.block w.heap.size (by simp)).trans (heap_alloc_new w _)
  go_wp2_with fail
  refine (HY.out w1 _ _ hN1).mono ?_
  rintro e w2 ⟨rfl, hN2, hg2⟩
  obtain ⟨PB, hPB⟩ : ∃ PB, PB = w2.heap.size := ⟨_, rfl⟩
  have HPB := Lib.hid hPB
  have hsz2 : w.heap.size + 3 ≤ w2.heap.size := by have := hg2.size; omega
  have hbw2 : Below w.heap.size w w2 := hbw1.grown hg2 (by omega) (fun k hk => by injection hk with hk; omega)
  have hz2 : Hid (w2.heap[w.heap.size]? = some (.cells Tm.zero.cells 25)) := by
    rw [Hid, hg2.block w.heap.size (by omega) (fun e => by injection e with e; omega)]; exact hz0.out
  clear hN1 hg2 hb1
  go_wp2
  rw [← hPB]
  clear hPB
  go_loopw [10] (fun x wr => ∃ i : Nat, 1 ≤ i ∧ i ≤ 6 ∧ x = .int .i64 i ∧ Hid (wr.heap[PB]? = some (.cells (rowP yv (fun j => pairAt bs (ky + 2 * (j - 1))) i) 53)) ∧ Next wr (w.heap.size + 1) (w.heap.size + 1 + 1) (some ⟨b, off, none⟩) n c bs (ky + 2 * (i - 1)) ∧ Hid (wr.heap[w.heap.size]? = some (.cells Tm.zero.cells 25)) ∧ Below w.heap.size w wr) (fun x _ => 6 - (intOf x).toNat)
  case atStart =>
    refine ⟨1, by omega, by omega, rfl, ?_, ?_, ?_, hbw2.alloc hbw2.size _⟩
    · rw [Hid, HPB.out]; exact heap_alloc_new w2 _
    · exact hN2.grown (grown_of_below (B := w2.heap.size) ((Below.refl _ _).alloc (Nat.le_refl _) _) (Nat.le_refl _) none) (fun g h => by cases h)
    · rw [Hid, heap_alloc_old _ _ (by omega)]; exact hz2.out
  case round =>
    obtain ⟨i, hi1, hi6, rfl, hrow, hN, hzr, hbl⟩ := hrel
    have hPlt := (Array.getElem?_eq_some_iff.1 hrow.out).1
    have hP3 : w.heap.size + 3 ≤ PB := by have := HPB.out; omega
    by_cases hlt : i < 6
    · go_wp2_with fail
      refine (NX.out wr _ _ _ hN (by omega)).mono ?_
      rintro e w3 ⟨rfl, hN3, hg3⟩
      have hrow3 : Hid (w3.heap[PB]? = some (.cells (rowP yv (fun j => pairAt bs (ky + 2 * (j - 1))) i) 53)) := by
        rw [Hid, hg3.block PB hPlt (fun e => by injection e with e; omega)]; exact hrow.out
      have hzr3 : Hid (w3.heap[w.heap.size]? = some (.cells Tm.zero.cells 25)) := by
        rw [Hid, hg3.block w.heap.size (by omega) (fun e => by injection e with e; omega)]; exact hzr.out
      have hbl3 : Below w.heap.size w w3 := hbl.grown hg3 hbl.size (fun k hk => by injection hk with hk; omega)
      obtain ⟨old, hold⟩ : ∃ v, w3.cell? ⟨PB, i, none⟩ = some v := ⟨_, (Lib.cell_of_heap hrow3.out i).trans (Array.getElem?_eq_getElem (show i < 6 from hlt))⟩
      have hfz : w3.frozen? ⟨PB, i, none⟩ = false := Lib.frozen_of_heap hrow3.out i
      clear hN hrow hg3 hzr hPlt
      go_wp2
      go_roundw
      case rel =>
        refine ⟨i + 1, by omega, by omega, by go_num, ?_, ?_, ?_, hbl3.setCell (by show _ ≤ PB; omega) _⟩
        · rw [Hid, heap_set_here _ _ _ _ _ _ _ hrow3.out, rowP_set yv (fun j => pairAt bs (ky + 2 * (j - 1))) i hi1 hlt]
        · have := hN3.grown (grown_set0 w3 PB i (.int .i64 (pairAt bs (ky + 2 * (i - 1))))) (fun g h => by injection h with h; omega)
          rwa [show ky + 2 * (i - 1) + 2 = ky + 2 * (i + 1 - 1) by omega] at this
        · rw [Hid, Below.heap_setCell _ _ _ _ (by show w.heap.size ≠ PB; omega)]; exact hzr3.out
      case measure => simp [intOf]; omega
    · obtain rfl : i = 6 := by omega
      have p0 : wr.cell? ⟨PB, 0, none⟩ = some (.int .i64 yv) := Lib.cell_of_heap hrow.out 0
      have p1 : wr.cell? ⟨PB, 1, none⟩ = some (.int .i64 (pairAt bs ky)) := Lib.cell_of_heap hrow.out 1
      have p2 : wr.cell? ⟨PB, 2, none⟩ = some (.int .i64 (pairAt bs (ky + 2))) := Lib.cell_of_heap hrow.out 2
      have p3 : wr.cell? ⟨PB, 3, none⟩ = some (.int .i64 (pairAt bs (ky + 4))) := Lib.cell_of_heap hrow.out 3
      have p4 : wr.cell? ⟨PB, 4, none⟩ = some (.int .i64 (pairAt bs (ky + 6))) := Lib.cell_of_heap hrow.out 4
      have p5 : wr.cell? ⟨PB, 5, none⟩ = some (.int .i64 (pairAt bs (ky + 8))) := Lib.cell_of_heap hrow.out 5
      have b1 : -1 ≤ pairAt bs ky ∧ pairAt bs ky ≤ 99 := pairI_le _ _
      have b2 : -1 ≤ pairAt bs (ky + 2) ∧ pairAt bs (ky + 2) ≤ 99 := pairI_le _ _
      have b3 : -1 ≤ pairAt bs (ky + 4) ∧ pairAt bs (ky + 4) ≤ 99 := pairI_le _ _
      have b4 : -1 ≤ pairAt bs (ky + 6) ∧ pairAt bs (ky + 6) ≤ 99 := pairI_le _ _
      have b5 : -1 ≤ pairAt bs (ky + 8) ∧ pairAt bs (ky + 8) ≤ 99 := pairI_le _ _
      clear hN hrow HY NX PR
      obtain ⟨z1, hz1⟩ : ∃ z, z = pairAt bs ky := ⟨_, rfl⟩
      rw [← hz1] at p1 b1
      obtain ⟨z2, hz2⟩ : ∃ z, z = pairAt bs (ky + 2) := ⟨_, rfl⟩
      rw [← hz2] at p2 b2
      obtain ⟨z3, hz3⟩ : ∃ z, z = pairAt bs (ky + 4) := ⟨_, rfl⟩
      rw [← hz3] at p3 b3
      obtain ⟨z4, hz4⟩ : ∃ z, z = pairAt bs (ky + 6) := ⟨_, rfl⟩
      rw [← hz4] at p4 b4
      obtain ⟨z5, hz5⟩ : ∃ z, z = pairAt bs (ky + 8) := ⟨_, rfl⟩
      rw [← hz5] at p5 b5
      have HV : Hid (∀ o : Option Tm, numsO yv z1 z2 z3 z4 z5 = o → Ending.returned (optV o) = Ending.returned (optV (numsO yv (pairAt bs ky) (pairAt bs (ky + 2)) (pairAt bs (ky + 4)) (pairAt bs (ky + 6)) (pairAt bs (ky + 8))))) := by
        intro o ho
        rw [← hz1, ← hz2, ← hz3, ← hz4, ← hz5, ho]
      have hno : ¬ (0 ≤ yv ∧ 0 ≤ z1 ∧ 0 ≤ z2 ∧ 0 ≤ z3 ∧ 0 ≤ z4 ∧ 0 ≤ z5) → numsO yv z1 z2 z3 z4 z5 = none := fun h => if_neg h
      have HNO := Lib.hid hno
      have hyes : (0 ≤ yv ∧ 0 ≤ z1 ∧ 0 ≤ z2 ∧ 0 ≤ z3 ∧ 0 ≤ z4 ∧ 0 ≤ z5) → numsO yv z1 z2 z3 z4 z5 = rightO (tmOf yv z1 z2 z3 z4 z5) := fun h => if_pos h
      have HYES := Lib.hid hyes
      clear hno hyes hz1 hz2 hz3 hz4 hz5
      have hs : ∀ (W : World) (j : Nat) (u : Value), Below w.heap.size w W → Below w.heap.size w (W.setCell ⟨w.heap.size, j, none⟩ u) := fun W j u hW => hW.setCell (Nat.le_refl _) u
      have HS := Lib.hid hs
      clear hs
      have q0 : wr.cell? ⟨w.heap.size, 0, none⟩ = some (.int .u16 0) := Lib.cell_of_heap hzr.out 0
      have q1 : wr.cell? ⟨w.heap.size, 1, none⟩ = some (.int .u8 0) := Lib.cell_of_heap hzr.out 1
      have q2 : wr.cell? ⟨w.heap.size, 2, none⟩ = some (.int .u8 0) := Lib.cell_of_heap hzr.out 2
      have q3 : wr.cell? ⟨w.heap.size, 3, none⟩ = some (.int .u8 0) := Lib.cell_of_heap hzr.out 3
      have q4 : wr.cell? ⟨w.heap.size, 4, none⟩ = some (.int .u8 0) := Lib.cell_of_heap hzr.out 4
      have q5 : wr.cell? ⟨w.heap.size, 5, none⟩ = some (.int .u8 0) := Lib.cell_of_heap hzr.out 5
      have f0 : wr.frozen? ⟨w.heap.size, 0, none⟩ = false := Lib.frozen_of_heap hzr.out 0
      have f1 : wr.frozen? ⟨w.heap.size, 1, none⟩ = false := Lib.frozen_of_heap hzr.out 1
      have f2 : wr.frozen? ⟨w.heap.size, 2, none⟩ = false := Lib.frozen_of_heap hzr.out 2
      have f3 : wr.frozen? ⟨w.heap.size, 3, none⟩ = false := Lib.frozen_of_heap hzr.out 3
      have f4 : wr.frozen? ⟨w.heap.size, 4, none⟩ = false := Lib.frozen_of_heap hzr.out 4
      have f5 : wr.frozen? ⟨w.heap.size, 5, none⟩ = false := Lib.frozen_of_heap hzr.out 5
      go_wp2
      have x0 : ∀ w, (Instr.index 53 (.agg #[.int .i64 yv, .int .i64 z1, .int .i64 z2, .int .i64 z3, .int .i64 z4, .int .i64 z5]) (.int .i64 0)).run Tryd.prog w = .ok (.int .i64 yv) w := fun _ => by kernel_rfl
      have x1 : ∀ w, (Instr.index 53 (.agg #[.int .i64 yv, .int .i64 z1, .int .i64 z2, .int .i64 z3, .int .i64 z4, .int .i64 z5]) (.int .i64 1)).run Tryd.prog w = .ok (.int .i64 z1) w := fun _ => by kernel_rfl
      have x2 : ∀ w, (Instr.index 53 (.agg #[.int .i64 yv, .int .i64 z1, .int .i64 z2, .int .i64 z3, .int .i64 z4, .int .i64 z5]) (.int .i64 2)).run Tryd.prog w = .ok (.int .i64 z2) w := fun _ => by kernel_rfl
      have x3 : ∀ w, (Instr.index 53 (.agg #[.int .i64 yv, .int .i64 z1, .int .i64 z2, .int .i64 z3, .int .i64 z4, .int .i64 z5]) (.int .i64 3)).run Tryd.prog w = .ok (.int .i64 z3) w := fun _ => by kernel_rfl
      have x4 : ∀ w, (Instr.index 53 (.agg #[.int .i64 yv, .int .i64 z1, .int .i64 z2, .int .i64 z3, .int .i64 z4, .int .i64 z5]) (.int .i64 4)).run Tryd.prog w = .ok (.int .i64 z4) w := fun _ => by kernel_rfl
      have x5 : ∀ w, (Instr.index 53 (.agg #[.int .i64 yv, .int .i64 z1, .int .i64 z2, .int .i64 z3, .int .i64 z4, .int .i64 z5]) (.int .i64 5)).run Tryd.prog w = .ok (.int .i64 z5) w := fun _ => by kernel_rfl
      go_loop [41] (fun v => ∃ i : Nat, i ≤ 6 ∧ v = .int .i64 i ∧ (0 < i → 0 ≤ yv) ∧ (1 < i → 0 ≤ z1) ∧ (2 < i → 0 ≤ z2) ∧ (3 < i → 0 ≤ z3) ∧ (4 < i → 0 ≤ z4) ∧ (5 < i → 0 ≤ z5)) (fun v => 6 - (intOf v).toNat)
      case atStart => exact ⟨0, by omega, rfl, by omega, by omega, by omega, by omega, by omega, by omega⟩
      case round =>
        obtain ⟨i, hi, rfl, a0, a1, a2, a3, a4, a5⟩ := hrel
        have hi' : i = 0 ∨ i = 1 ∨ i = 2 ∨ i = 3 ∨ i = 4 ∨ i = 5 ∨ i = 6 := by omega
        rcases hi' with rfl | rfl | rfl | rfl | rfl | rfl | rfl
        · by_cases hneg : yv < 0
          · go_wp2
            refine bodyPost_ret (results_tm rfl _ _ w.heap.size Tm.zero rfl (heap_set_tm _ _ Tm.zero Tm.zero hzr.out)) rfl ?_
            exact ⟨HV.out none (HNO.out (by omega)), HS.out _ _ _ (HS.out _ _ _ (HS.out _ _ _ (HS.out _ _ _ (HS.out _ _ _ (HS.out _ _ _ hbl)))))⟩
          · go_wp2
            go_round
            case rel => exact ⟨1, by omega, rfl, by omega, by omega, by omega, by omega, by omega, by omega⟩
            case measure => simp [intOf]
        · by_cases hneg : z1 < 0
          · go_wp2
            refine bodyPost_ret (results_tm rfl _ _ w.heap.size Tm.zero rfl (heap_set_tm _ _ Tm.zero Tm.zero hzr.out)) rfl ?_
            exact ⟨HV.out none (HNO.out (by omega)), HS.out _ _ _ (HS.out _ _ _ (HS.out _ _ _ (HS.out _ _ _ (HS.out _ _ _ (HS.out _ _ _ hbl)))))⟩
          · go_wp2
            go_round
            case rel => exact ⟨2, by omega, rfl, by omega, by omega, by omega, by omega, by omega, by omega⟩
            case measure => simp [intOf]
        · by_cases hneg : z2 < 0
          · go_wp2
            refine bodyPost_ret (results_tm rfl _ _ w.heap.size Tm.zero rfl (heap_set_tm _ _ Tm.zero Tm.zero hzr.out)) rfl ?_
            exact ⟨HV.out none (HNO.out (by omega)), HS.out _ _ _ (HS.out _ _ _ (HS.out _ _ _ (HS.out _ _ _ (HS.out _ _ _ (HS.out _ _ _ hbl)))))⟩
          · go_wp2
            go_round
            case rel => exact ⟨3, by omega, rfl, by omega, by omega, by omega, by omega, by omega, by omega⟩
            case measure => simp [intOf]
        · by_cases hneg : z3 < 0
          · go_wp2
            refine bodyPost_ret (results_tm rfl _ _ w.heap.size Tm.zero rfl (heap_set_tm _ _ Tm.zero Tm.zero hzr.out)) rfl ?_
            exact ⟨HV.out none (HNO.out (by omega)), HS.out _ _ _ (HS.out _ _ _ (HS.out _ _ _ (HS.out _ _ _ (HS.out _ _ _ (HS.out _ _ _ hbl)))))⟩
          · go_wp2
            go_round
            case rel => exact ⟨4, by omega, rfl, by omega, by omega, by omega, by omega, by omega, by omega⟩
            case measure => simp [intOf]
        · by_cases hneg : z4 < 0
          · go_wp2
            refine bodyPost_ret (results_tm rfl _ _ w.heap.size Tm.zero rfl (heap_set_tm _ _ Tm.zero Tm.zero hzr.out)) rfl ?_
            exact ⟨HV.out none (HNO.out (by omega)), HS.out _ _ _ (HS.out _ _ _ (HS.out _ _ _ (HS.out _ _ _ (HS.out _ _ _ (HS.out _ _ _ hbl)))))⟩
          · go_wp2
            go_round
            case rel => exact ⟨5, by omega, rfl, by omega, by omega, by omega, by omega, by omega, by omega⟩
            case measure => simp [intOf]
        · by_cases hneg : z5 < 0
          · go_wp2
            refine bodyPost_ret (results_tm rfl _ _ w.heap.size Tm.zero rfl (heap_set_tm _ _ Tm.zero Tm.zero hzr.out)) rfl ?_
            exact ⟨HV.out none (HNO.out (by omega)), HS.out _ _ _ (HS.out _ _ _ (HS.out _ _ _ (HS.out _ _ _ (HS.out _ _ _ (HS.out _ _ _ hbl)))))⟩
          · go_wp2
            go_round
            case rel => exact ⟨6, by omega, rfl, by omega, by omega, by omega, by omega, by omega, by omega⟩
            case measure => simp [intOf]
        · have hT := tmOf_parts (yv := yv) (z1 := z1) (z2 := z2) (z3 := z3) (z4 := z4) (z5 := z5) (a0 (by omega)) ⟨a1 (by omega), b1.2⟩ ⟨a2 (by omega), b2.2⟩ ⟨a3 (by omega), b3.2⟩ ⟨a4 (by omega), b4.2⟩ ⟨a5 (by omega), b5.2⟩
          have hTy : (tmOf yv z1 z2 z3 z4 z5).y < 65536 := by show yv.toNat < 65536; omega
          have hV2 := HYES.out ⟨a0 (by omega), a1 (by omega), a2 (by omega), a3 (by omega), a4 (by omega), a5 (by omega)⟩
          generalize tmOf yv z1 z2 z3 z4 z5 = T at hT hTy hV2
          have TM := time_any T wr hTy
          rw [hT] at TM
          have hO : optV (rightO T) = .tuple #[tmV ((rightO T).getD Tm.zero), .bool (rightO T).isSome] := rfl
          have HV3 := HV.out _ hV2
          rw [hO] at TM HV3
          generalize (rightO T).getD Tm.zero = U at TM HV3
          generalize (rightO T).isSome = bb at TM HV3
          obtain ⟨y, mo, d, h', mi, s'⟩ := U
          have TM2 : Hid (Calls Tryd.prog 45 #[.agg #[.int .i64 yv, .int .i64 z1, .int .i64 z2, .int .i64 z3, .int .i64 z4, .int .i64 z5]] wr fun e w' => e = .returned (.tuple #[.agg #[.int .u16 (y : Int), .int .u8 (mo.toNat : Int), .int .u8 (d.toNat : Int), .int .u8 (h'.toNat : Int), .int .u8 (mi.toNat : Int), .int .u8 (s'.toNat : Int)], .bool bb]) ∧ Below wr.heap.size wr w') := TM
          have HV4 := Lib.hid HV3
          clear hT hTy hV2 HYES HNO HV x0 x1 x2 x3 x4 x5 hO HV3 TM
          go_wp2_with fail
          refine TM2.out.mono ?_
          rintro e w4 ⟨rfl, hb4⟩
          have hsz4 := hbl.size
          have hzr4 : Hid (w4.heap[w.heap.size]? = some (.cells Tm.zero.cells 25)) := by
            rw [Hid, hb4.block w.heap.size (by have := (Array.getElem?_eq_some_iff.1 hzr.out).1; exact this)]; exact hzr.out
          have hbl4 : Below w.heap.size w w4 := hbl.trans (hb4.mono hsz4)
          clear q0 q1 q2 q3 q4 q5 f0 f1 f2 f3 f4 f5
          have q0 : w4.cell? ⟨w.heap.size, 0, none⟩ = some (.int .u16 0) := Lib.cell_of_heap hzr4.out 0
          have f0 : w4.frozen? ⟨w.heap.size, 0, none⟩ = false := Lib.frozen_of_heap hzr4.out 0
          have q1 : w4.cell? ⟨w.heap.size, 1, none⟩ = some (.int .u8 0) := Lib.cell_of_heap hzr4.out 1
          have f1 : w4.frozen? ⟨w.heap.size, 1, none⟩ = false := Lib.frozen_of_heap hzr4.out 1
          have q2 : w4.cell? ⟨w.heap.size, 2, none⟩ = some (.int .u8 0) := Lib.cell_of_heap hzr4.out 2
          have f2 : w4.frozen? ⟨w.heap.size, 2, none⟩ = false := Lib.frozen_of_heap hzr4.out 2
          have q3 : w4.cell? ⟨w.heap.size, 3, none⟩ = some (.int .u8 0) := Lib.cell_of_heap hzr4.out 3
          have f3 : w4.frozen? ⟨w.heap.size, 3, none⟩ = false := Lib.frozen_of_heap hzr4.out 3
          have q4 : w4.cell? ⟨w.heap.size, 4, none⟩ = some (.int .u8 0) := Lib.cell_of_heap hzr4.out 4
          have f4 : w4.frozen? ⟨w.heap.size, 4, none⟩ = false := Lib.frozen_of_heap hzr4.out 4
          have q5 : w4.cell? ⟨w.heap.size, 5, none⟩ = some (.int .u8 0) := Lib.cell_of_heap hzr4.out 5
          have f5 : w4.frozen? ⟨w.heap.size, 5, none⟩ = false := Lib.frozen_of_heap hzr4.out 5
          go_wp2
          refine bodyPost_ret (results_tm rfl _ _ w.heap.size ⟨y, mo, d, h', mi, s'⟩ rfl (heap_set_tm _ _ ⟨y, mo, d, h', mi, s'⟩ Tm.zero hzr4.out)) rfl ?_
          exact ⟨HV4.out, HS.out _ _ _ (HS.out _ _ _ (HS.out _ _ _ (HS.out _ _ _ (HS.out _ _ _ (HS.out _ _ _ hbl4)))))⟩
theorem read_out (F : Value) (A : Option Addr) (n c : Nat) (bs : List UInt8) (len : Nat) (w : World) (hR : RB w A n bs) (hn : n ≤ 1000000) (hl : 1 ≤ len ∧ len ≤ 1000000) (hno : n ≠ len ∨ ∃ q, bs[len - 1]? = some q ∧ q ≠ 90) :
    Calls Tryd.prog 32 #[.slice A n c, .int .i64 (len : Int), F] w fun e w' => e = .returned (optV none) ∧ Below w.heap.size w w' := by
  have hs : ∀ (W : World) (j : Nat) (u : Value), Below w.heap.size w W → Below w.heap.size w (W.setCell ⟨w.heap.size, j, none⟩ u) := fun W j u hW => hW.setCell (Nat.le_refl _) u
  have HS := Lib.hid hs
  have hb0 : ∀ cs, Below w.heap.size w (w.alloc (.cells cs 25)) := fun cs => (Below.refl _ _).alloc (Nat.le_refl _) _
  clear hs
  obtain ⟨l1, l2⟩ := hl
  by_cases hne : n = len
  · subst hne
    obtain ⟨q, hq, hq9⟩ := hno.resolve_left (by simp)
    obtain ⟨b, off, q', rfl, hb, hq', hcq⟩ := hR.at_ (k := n - 1) (by omega)
    rw [hq] at hq'
    injection hq' with hq'
    subst hq'
    have hz : ((q.toNat : Int) == 90) = false := beq_eq_false_iff_ne.2 (fun e => hq9 (UInt8.toNat_inj.1 (by show q.toNat = 90; omega)))
    clear hno hq hq9
    go_enter Tryd.func32, Tryd.ntmps32
    go_wp2
    refine bodyPost_ret (results_tm rfl _ _ w.heap.size Tm.zero rfl (heap_alloc_new w _)) rfl ?_
    exact ⟨rfl, hb0 _⟩
  · have hz : ((n : Int) == (len : Int)) = false := beq_eq_false_iff_ne.2 (by omega)
    clear hno
    go_enter Tryd.func32, Tryd.ntmps32
    go_wp2
    refine bodyPost_ret (results_tm rfl _ _ w.heap.size Tm.zero rfl (heap_alloc_new w _)) rfl ?_
    exact ⟨rfl, hb0 _⟩
end Go.Proofs.YtepakdgpaaeelaaDoor
