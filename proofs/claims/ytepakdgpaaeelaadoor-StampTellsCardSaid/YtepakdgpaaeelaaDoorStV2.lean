/-
  stamp: the document's answers of Utc and General.
-/
import Derived.Test.YtepakdgpaaeelaaDoorStV
import Derived.Test.YtepakdgpaaeelaaDoorStS
import Derived.Test.YtepakdgpaaeelaaDoorUp
import Derived.Test.YtepakdgpaaeelaaDoorStJ
namespace Go.Proofs.YtepakdgpaaeelaaDoor
open Go.RowKit Go
set_option linter.unusedVariables false
set_option maxRecDepth 100000
theorem refTwo_below (A : Option Addr) (n c : Nat) (bs : List UInt8) (k : Nat) (w : World) (hR : RB w A n bs) (hk : k + 2 ≤ n) (hn : n ≤ 1000000) :
    Calls Tryd.prog 34 #[.slice A n c, .int .i64 (k : Int)] w fun e w' => e = .returned (.int .i64 (twoN bs k : Nat)) ∧ Below w.heap.size w w' :=
  (refTwo_any A n c bs k w hR hk hn).mono fun e w' ⟨m, h1, h2⟩ => ⟨h1, h2 ▸ below_dn (Below.refl _ _) m⟩
def momT (y : Nat) (bs : List UInt8) : Tm := ⟨y, UInt8.ofNat (twoN bs 0), UInt8.ofNat (twoN bs 2), UInt8.ofNat (twoN bs 4), UInt8.ofNat (twoN bs 6), UInt8.ofNat (twoN bs 8)⟩
def momO (y : Nat) (bs : List UInt8) : Option Tm := if bs[10]? = some 90 then rightO (momT y bs) else none
theorem twoN_u8 (bs : List UInt8) (k : Nat) : ((UInt8.ofNat (twoN bs k)).toNat : Int) = ((twoN bs k : Nat) : Int) := by
  have := twoI_le (bs.getD k 0) (bs.getD (k + 1) 0)
  have : twoN bs k ≤ 100 := this
  rw [UInt8.toNat_ofNat']
  omega
set_option maxHeartbeats 1600000 in
theorem moment_any (y : Nat) (A : Option Addr) (c : Nat) (bs : List UInt8) (w : World) (hR : RB w A 11 bs) (hy : y < 65536) :
    Calls Tryd.prog 35 #[.int .i64 (y : Int), .slice A 11 c] w fun e w' => e = .returned (optV (momO y bs)) ∧ Below w.heap.size w w' := by
  have T0 : Hid (∀ W, RB W A 11 bs → Calls Tryd.prog 34 #[.slice A 11 c, .int .i64 0] W fun e w' => e = .returned (.int .i64 ((UInt8.ofNat (twoN bs 0)).toNat : Int)) ∧ Below W.heap.size W w') := fun W h => by
    rw [twoN_u8]
    exact refTwo_below A 11 c bs 0 W h (by omega) (by omega)
  have T1 : Hid (∀ W, RB W A 11 bs → Calls Tryd.prog 34 #[.slice A 11 c, .int .i64 2] W fun e w' => e = .returned (.int .i64 ((UInt8.ofNat (twoN bs 2)).toNat : Int)) ∧ Below W.heap.size W w') := fun W h => by
    rw [twoN_u8]
    exact refTwo_below A 11 c bs 2 W h (by omega) (by omega)
  have T2 : Hid (∀ W, RB W A 11 bs → Calls Tryd.prog 34 #[.slice A 11 c, .int .i64 4] W fun e w' => e = .returned (.int .i64 ((UInt8.ofNat (twoN bs 4)).toNat : Int)) ∧ Below W.heap.size W w') := fun W h => by
    rw [twoN_u8]
    exact refTwo_below A 11 c bs 4 W h (by omega) (by omega)
  have T3 : Hid (∀ W, RB W A 11 bs → Calls Tryd.prog 34 #[.slice A 11 c, .int .i64 6] W fun e w' => e = .returned (.int .i64 ((UInt8.ofNat (twoN bs 6)).toNat : Int)) ∧ Below W.heap.size W w') := fun W h => by
    rw [twoN_u8]
    exact refTwo_below A 11 c bs 6 W h (by omega) (by omega)
  have T4 : Hid (∀ W, RB W A 11 bs → Calls Tryd.prog 34 #[.slice A 11 c, .int .i64 8] W fun e w' => e = .returned (.int .i64 ((UInt8.ofNat (twoN bs 8)).toNat : Int)) ∧ Below W.heap.size W w') := fun W h => by
    rw [twoN_u8]
    exact refTwo_below A 11 c bs 8 W h (by omega) (by omega)
  have hM : momT y bs = ⟨y, UInt8.ofNat (twoN bs 0), UInt8.ofNat (twoN bs 2), UInt8.ofNat (twoN bs 4), UInt8.ofNat (twoN bs 6), UInt8.ofNat (twoN bs 8)⟩ := rfl
  have hO : ∀ q R, bs[10]? = some q → rightB (momT y bs) = R → momO y bs = if q.toNat = 90 then (if R then some (momT y bs) else none) else none := by
    intro q R h1 h2
    unfold momO rightO
    rw [h1, h2]
    by_cases e : q.toNat = 90
    · rw [if_pos e, if_pos (by rw [show q = 90 from UInt8.toNat_inj.1 e])]
    · rw [if_neg e, if_neg (fun h => e (by injection h with h; rw [h]; rfl))]
  have RT := Lib.hid (fun W => refRight_any (momT y bs) W hy)
  obtain ⟨g, off, q, hA, hg, hq, hcq⟩ := hR.at_ (k := 10) (by omega)
  subst hA
  have hO := hO q _ hq rfl
  rw [hO]
  clear hq
  have HRB := Lib.hid hR
  have hlen := hR.1
  clear hR hO
  generalize rightB (momT y bs) = R at RT ⊢
  rw [hM] at RT ⊢
  clear hM
  generalize UInt8.ofNat (twoN bs 0) = b0 at T0 RT ⊢
  generalize UInt8.ofNat (twoN bs 2) = b1 at T1 RT ⊢
  generalize UInt8.ofNat (twoN bs 4) = b2 at T2 RT ⊢
  generalize UInt8.ofNat (twoN bs 6) = b3 at T3 RT ⊢
  generalize UInt8.ofNat (twoN bs 8) = b4 at T4 RT ⊢
  have z0 := b0.toNat_lt
  have z1 := b1.toNat_lt
  have z2 := b2.toNat_lt
  have z3 := b3.toNat_lt
  have z4 := b4.toNat_lt
  have hqb := q.toNat_lt
  unfold tmV Tm.cells at RT
  simp only at RT
  have hb0 : Below w.heap.size w (w.alloc (.cells Tm.zero.cells 25)) := (Below.refl _ _).alloc (Nat.le_refl _) _
  have G0 := heap_alloc_new w (.cells Tm.zero.cells 25)
  have HO := Lib.hid HRB.out.1
  have hlt := World.block_lt_of_cell? w _ hcq
  skip
  by_cases hq9 : q.toNat = 90
  · rw [if_pos hq9]
    have d1 : ((q.toNat : Int) != 90) = false := by rw [bne_eq_false_iff_eq]; omega
    clear hq9
    cases R with
    | true =>
      go_enter Tryd.func35, Tryd.ntmps35
      go_wp2_with fail
      refine calls_named fun w0 hw0 => ?_
      have hbw0 : Below w.heap.size w w0 := below_named hw0 hb0
      have k0 : w0.heap[w.heap.size]? = some (.cells #[.int .u16 0, .int .u8 0, .int .u8 0, .int .u8 0, .int .u8 0, .int .u8 0] 25) := heap_named hw0 G0
      clear hw0 G0 hb0 HO hlen
      have hR0 := HRB.out.below hbw0
      have c0 := (hbw0.cell (p := ⟨g, off + 10, none⟩) hlt).trans hcq
      have hs0 := hbw0.size
      clear hlt hcq
      skip
      refine (T0.out _ hR0).mono ?_
      intro e w10 hw10
      obtain ⟨rfl, hb10⟩ := hw10
      have hbw10 := hbw0.trans (hb10.mono hs0)
      have hs10 := hbw10.size
      have k10 := (hb10.block _ (heap_lt k0)).trans k0
      have hR10 := hR0.below hb10
      have c10 := (hb10.cell (p := ⟨g, off + 10, none⟩) (World.block_lt_of_cell? _ _ c0)).trans c0
      clear hb10 hbw0 hs0 k0 hR0 c0
      go_wp2_with fail
      refine (T1.out _ hR10).mono ?_
      intro e w11 hw11
      obtain ⟨rfl, hb11⟩ := hw11
      have hbw11 := hbw10.trans (hb11.mono hs10)
      have hs11 := hbw11.size
      have k11 := (hb11.block _ (heap_lt k10)).trans k10
      have hR11 := hR10.below hb11
      have c11 := (hb11.cell (p := ⟨g, off + 10, none⟩) (World.block_lt_of_cell? _ _ c10)).trans c10
      clear hb11 hbw10 hs10 k10 hR10 c10
      go_wp2_with fail
      refine (T2.out _ hR11).mono ?_
      intro e w12 hw12
      obtain ⟨rfl, hb12⟩ := hw12
      have hbw12 := hbw11.trans (hb12.mono hs11)
      have hs12 := hbw12.size
      have k12 := (hb12.block _ (heap_lt k11)).trans k11
      have hR12 := hR11.below hb12
      have c12 := (hb12.cell (p := ⟨g, off + 10, none⟩) (World.block_lt_of_cell? _ _ c11)).trans c11
      clear hb12 hbw11 hs11 k11 hR11 c11
      go_wp2_with fail
      refine (T3.out _ hR12).mono ?_
      intro e w13 hw13
      obtain ⟨rfl, hb13⟩ := hw13
      have hbw13 := hbw12.trans (hb13.mono hs12)
      have hs13 := hbw13.size
      have k13 := (hb13.block _ (heap_lt k12)).trans k12
      have hR13 := hR12.below hb13
      have c13 := (hb13.cell (p := ⟨g, off + 10, none⟩) (World.block_lt_of_cell? _ _ c12)).trans c12
      clear hb13 hbw12 hs12 k12 hR12 c12
      go_wp2_with fail
      refine (T4.out _ hR13).mono ?_
      intro e w14 hw14
      obtain ⟨rfl, hb14⟩ := hw14
      have hbw14 := hbw13.trans (hb14.mono hs13)
      have hs14 := hbw14.size
      have k14 := (hb14.block _ (heap_lt k13)).trans k13
      have hR14 := hR13.below hb14
      have c14 := (hb14.cell (p := ⟨g, off + 10, none⟩) (World.block_lt_of_cell? _ _ c13)).trans c13
      clear hb14 hbw13 hs13 k13 hR13 c13
      have hgl : g < w14.heap.size := World.block_lt_of_cell? _ _ c14
      go_wp2_with fail
      refine calls_named fun w1 hw1 => ?_
      have hbw1 : Below w.heap.size w w1 := below_named hw1 (hbw14.alloc hs14 _)
      have k1 := heap_named hw1 ((heap_alloc_old w14 _ (heap_lt k14)).trans k14)
      have x1 := heap_named hw1 (heap_alloc_new w14 _)
      have hs1 := hbw1.size
      clear hw1
      refine (RT.out w1).mono ?_
      intro e w2 hw2
      obtain ⟨rfl, hb2⟩ := hw2
      have hbw2 := hbw1.trans (hb2.mono hs1)
      have k2 := (hb2.block _ (heap_lt k1)).trans k1
      have x2 := (hb2.block _ (heap_lt x1)).trans x1
      clear hb2
      obtain ⟨a0, a1, a2, a3, a4, a5⟩ := cells6 k2
      obtain ⟨f0, f1, f2, f3, f4, f5⟩ := free6 k2
      obtain ⟨l0, l1, l2, l3, l4, l5⟩ := cells6 x2
      have K2 := Lib.hid k2
      clear k14 k1 x1 x2 k2
      go_wp2
      all_goals refine bodyPost_ret (results_tm rfl _ _ w.heap.size ⟨y, b0, b1, b2, b3, b4⟩ rfl (set6 K2.out)) rfl ?_
      all_goals exact ⟨rfl, below6 hbw2 (Nat.le_refl _)⟩
    | false =>
      go_enter Tryd.func35, Tryd.ntmps35
      go_wp2_with fail
      refine calls_named fun w0 hw0 => ?_
      have hbw0 : Below w.heap.size w w0 := below_named hw0 hb0
      have k0 : w0.heap[w.heap.size]? = some (.cells #[.int .u16 0, .int .u8 0, .int .u8 0, .int .u8 0, .int .u8 0, .int .u8 0] 25) := heap_named hw0 G0
      clear hw0 G0 hb0 HO hlen
      have hR0 := HRB.out.below hbw0
      have c0 := (hbw0.cell (p := ⟨g, off + 10, none⟩) hlt).trans hcq
      have hs0 := hbw0.size
      clear hlt hcq
      skip
      refine (T0.out _ hR0).mono ?_
      intro e w10 hw10
      obtain ⟨rfl, hb10⟩ := hw10
      have hbw10 := hbw0.trans (hb10.mono hs0)
      have hs10 := hbw10.size
      have k10 := (hb10.block _ (heap_lt k0)).trans k0
      have hR10 := hR0.below hb10
      have c10 := (hb10.cell (p := ⟨g, off + 10, none⟩) (World.block_lt_of_cell? _ _ c0)).trans c0
      clear hb10 hbw0 hs0 k0 hR0 c0
      go_wp2_with fail
      refine (T1.out _ hR10).mono ?_
      intro e w11 hw11
      obtain ⟨rfl, hb11⟩ := hw11
      have hbw11 := hbw10.trans (hb11.mono hs10)
      have hs11 := hbw11.size
      have k11 := (hb11.block _ (heap_lt k10)).trans k10
      have hR11 := hR10.below hb11
      have c11 := (hb11.cell (p := ⟨g, off + 10, none⟩) (World.block_lt_of_cell? _ _ c10)).trans c10
      clear hb11 hbw10 hs10 k10 hR10 c10
      go_wp2_with fail
      refine (T2.out _ hR11).mono ?_
      intro e w12 hw12
      obtain ⟨rfl, hb12⟩ := hw12
      have hbw12 := hbw11.trans (hb12.mono hs11)
      have hs12 := hbw12.size
      have k12 := (hb12.block _ (heap_lt k11)).trans k11
      have hR12 := hR11.below hb12
      have c12 := (hb12.cell (p := ⟨g, off + 10, none⟩) (World.block_lt_of_cell? _ _ c11)).trans c11
      clear hb12 hbw11 hs11 k11 hR11 c11
      go_wp2_with fail
      refine (T3.out _ hR12).mono ?_
      intro e w13 hw13
      obtain ⟨rfl, hb13⟩ := hw13
      have hbw13 := hbw12.trans (hb13.mono hs12)
      have hs13 := hbw13.size
      have k13 := (hb13.block _ (heap_lt k12)).trans k12
      have hR13 := hR12.below hb13
      have c13 := (hb13.cell (p := ⟨g, off + 10, none⟩) (World.block_lt_of_cell? _ _ c12)).trans c12
      clear hb13 hbw12 hs12 k12 hR12 c12
      go_wp2_with fail
      refine (T4.out _ hR13).mono ?_
      intro e w14 hw14
      obtain ⟨rfl, hb14⟩ := hw14
      have hbw14 := hbw13.trans (hb14.mono hs13)
      have hs14 := hbw14.size
      have k14 := (hb14.block _ (heap_lt k13)).trans k13
      have hR14 := hR13.below hb14
      have c14 := (hb14.cell (p := ⟨g, off + 10, none⟩) (World.block_lt_of_cell? _ _ c13)).trans c13
      clear hb14 hbw13 hs13 k13 hR13 c13
      have hgl : g < w14.heap.size := World.block_lt_of_cell? _ _ c14
      go_wp2_with fail
      refine calls_named fun w1 hw1 => ?_
      have hbw1 : Below w.heap.size w w1 := below_named hw1 (hbw14.alloc hs14 _)
      have k1 := heap_named hw1 ((heap_alloc_old w14 _ (heap_lt k14)).trans k14)
      have x1 := heap_named hw1 (heap_alloc_new w14 _)
      have hs1 := hbw1.size
      clear hw1
      refine (RT.out w1).mono ?_
      intro e w2 hw2
      obtain ⟨rfl, hb2⟩ := hw2
      have hbw2 := hbw1.trans (hb2.mono hs1)
      have k2 := (hb2.block _ (heap_lt k1)).trans k1
      have x2 := (hb2.block _ (heap_lt x1)).trans x1
      clear hb2
      obtain ⟨a0, a1, a2, a3, a4, a5⟩ := cells6 k2
      obtain ⟨f0, f1, f2, f3, f4, f5⟩ := free6 k2
      obtain ⟨l0, l1, l2, l3, l4, l5⟩ := cells6 x2
      have K2 := Lib.hid k2
      clear k14 k1 x1 x2 k2
      go_wp2
      all_goals refine bodyPost_ret (results_tm rfl _ _ w.heap.size Tm.zero rfl (set6 K2.out)) rfl ?_
      all_goals exact ⟨rfl, below6 hbw2 (Nat.le_refl _)⟩
  · rw [if_neg hq9]
    have d1 : ((q.toNat : Int) != 90) = true := by rw [bne_iff_ne]; omega
    clear hq9
    go_enter Tryd.func35, Tryd.ntmps35
    go_wp2_with fail
    refine calls_named fun w0 hw0 => ?_
    have hbw0 : Below w.heap.size w w0 := below_named hw0 hb0
    have k0 : w0.heap[w.heap.size]? = some (.cells #[.int .u16 0, .int .u8 0, .int .u8 0, .int .u8 0, .int .u8 0, .int .u8 0] 25) := heap_named hw0 G0
    clear hw0 G0 hb0 HO hlen
    have hR0 := HRB.out.below hbw0
    have c0 := (hbw0.cell (p := ⟨g, off + 10, none⟩) hlt).trans hcq
    have hs0 := hbw0.size
    clear hlt hcq
    skip
    refine (T0.out _ hR0).mono ?_
    intro e w10 hw10
    obtain ⟨rfl, hb10⟩ := hw10
    have hbw10 := hbw0.trans (hb10.mono hs0)
    have hs10 := hbw10.size
    have k10 := (hb10.block _ (heap_lt k0)).trans k0
    have hR10 := hR0.below hb10
    have c10 := (hb10.cell (p := ⟨g, off + 10, none⟩) (World.block_lt_of_cell? _ _ c0)).trans c0
    clear hb10 hbw0 hs0 k0 hR0 c0
    go_wp2_with fail
    refine (T1.out _ hR10).mono ?_
    intro e w11 hw11
    obtain ⟨rfl, hb11⟩ := hw11
    have hbw11 := hbw10.trans (hb11.mono hs10)
    have hs11 := hbw11.size
    have k11 := (hb11.block _ (heap_lt k10)).trans k10
    have hR11 := hR10.below hb11
    have c11 := (hb11.cell (p := ⟨g, off + 10, none⟩) (World.block_lt_of_cell? _ _ c10)).trans c10
    clear hb11 hbw10 hs10 k10 hR10 c10
    go_wp2_with fail
    refine (T2.out _ hR11).mono ?_
    intro e w12 hw12
    obtain ⟨rfl, hb12⟩ := hw12
    have hbw12 := hbw11.trans (hb12.mono hs11)
    have hs12 := hbw12.size
    have k12 := (hb12.block _ (heap_lt k11)).trans k11
    have hR12 := hR11.below hb12
    have c12 := (hb12.cell (p := ⟨g, off + 10, none⟩) (World.block_lt_of_cell? _ _ c11)).trans c11
    clear hb12 hbw11 hs11 k11 hR11 c11
    go_wp2_with fail
    refine (T3.out _ hR12).mono ?_
    intro e w13 hw13
    obtain ⟨rfl, hb13⟩ := hw13
    have hbw13 := hbw12.trans (hb13.mono hs12)
    have hs13 := hbw13.size
    have k13 := (hb13.block _ (heap_lt k12)).trans k12
    have hR13 := hR12.below hb13
    have c13 := (hb13.cell (p := ⟨g, off + 10, none⟩) (World.block_lt_of_cell? _ _ c12)).trans c12
    clear hb13 hbw12 hs12 k12 hR12 c12
    go_wp2_with fail
    refine (T4.out _ hR13).mono ?_
    intro e w14 hw14
    obtain ⟨rfl, hb14⟩ := hw14
    have hbw14 := hbw13.trans (hb14.mono hs13)
    have hs14 := hbw14.size
    have k14 := (hb14.block _ (heap_lt k13)).trans k13
    have hR14 := hR13.below hb14
    have c14 := (hb14.cell (p := ⟨g, off + 10, none⟩) (World.block_lt_of_cell? _ _ c13)).trans c13
    clear hb14 hbw13 hs13 k13 hR13 c13
    have hgl : g < w14.heap.size := World.block_lt_of_cell? _ _ c14
    obtain ⟨a0, a1, a2, a3, a4, a5⟩ := cells6 k14
    obtain ⟨f0, f1, f2, f3, f4, f5⟩ := free6 k14
    have K0 := Lib.hid k14
    have hlt := heap_lt k14
    have hkk := (heap_alloc_old w14 (.cells #[.int .u16 (y : Int), .int .u8 (b0.toNat : Int), .int .u8 (b1.toNat : Int), .int .u8 (b2.toNat : Int), .int .u8 (b3.toNat : Int), .int .u8 (b4.toNat : Int)] 25) hlt).trans k14
    clear k14 hkk
    go_wp2
    exact bodyPost_ret (results_tm rfl _ _ w.heap.size Tm.zero rfl ((heap_alloc_old _ _ (heap_lt (set6 K0.out))).trans (set6 K0.out))) rfl ⟨rfl, (below6 hbw14 (Nat.le_refl _)).alloc (Nat.le_of_lt (heap_lt (set6 K0.out))) _⟩
end Go.Proofs.YtepakdgpaaeelaaDoor
