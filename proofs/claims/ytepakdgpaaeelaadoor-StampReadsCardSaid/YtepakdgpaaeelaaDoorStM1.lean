/-
  stamp: the statement on reading and writing.
-/
import Derived.Test.YtepakdgpaaeelaaDoorStT
import Derived.Test.YtepakdgpaaeelaaDoorStU
import Derived.Test.YtepakdgpaaeelaaDoorFam
import Derived.Test.YtepakdgpaaeelaaDoorRoomy
import Derived.Test.YtepakdgpaaeelaaDoorStW
namespace Go.Proofs.YtepakdgpaaeelaaDoor
open Go.RowKit Go
set_option linter.unusedVariables false
set_option maxRecDepth 100000
theorem readV_none : readV none = .tuple #[.agg #[.int .u16 0, .int .u8 0, .int .u8 0, .int .u8 0, .int .u8 0, .int .u8 0], .int .i64 9] := rfl
theorem readV_some (u : Tm) : readV (some u) = .tuple #[tmV u, .int .i64 0] := rfl
theorem beq_self {bs : List UInt8} : (bs == bs) = true := by simp
set_option maxHeartbeats 3200000 in
theorem reads_row (A : Option Addr) (n c : Nat) (bs : List UInt8) (t : Tm) (w : World) (hI : IsBs w A n c bs) (ht : IsTm w t) (hT : Sizes w) :
    Calls Tryd.prog 4 #[.slice A n c, tmV t] w fun e w' => e = .returned (.bool true) ∧ Below w.heap.size w w' := by
  have hy : t.y < 65536 := ht
  have hR := hI.rb
  have hl1 := hI.le
  have hl2 := hI.max
  unfold maxLen at hl2
  have WK := Lib.hid (fun W (h : Sizes W) => works_any W h)
  by_cases hn : n ≤ 4096
  · have WR := Lib.hid (fun W (h : Sizes W) => write_any t W h hy)
    have RW := Lib.hid (fun W => refWrite_any t W hy)
    have HL := Lib.hid (tmB_len t)
    have RD := Lib.hid (fun A1 c1 W (h : RB W A1 n bs) (h1 : n ≤ c1) (h2 : c1 ≤ 9223372036854775807) (h3 : Sizes W) => sread_any A1 n c1 bs W h h1 h2 h3)
    have RR := Lib.hid (fun A1 c1 W (h : RB W A1 n bs) => rread_any A1 n c1 bs W h)
    have RM := Lib.hid (fun W (h : RB W A n bs) => roomy_any A n c bs W h (by omega))
    have KP := Lib.hid (fun W A1 c1 base (h : Roomed W base A1 n c1 bs) (h2 : RB W A n bs) => kept_any A1 A n n c1 c base bs bs W h h2 (by omega))
    clear hI ht
    generalize readO bs = rv at RD RR
    generalize tmB t = tb at WR RW HL
    unfold tmV Tm.cells at *
    obtain ⟨yt_, mot_, dt_, ht_, mit_, st_⟩ := t
    simp only at *
    cases rv with
    | none =>
      rw [readV_none] at RD RR
      go_enter Tryd.func4, Tryd.ntmps4
      go_wp2_with fail
      refine calls_named fun w0 hw0 => ?_
      have hbw0 : Below w.heap.size w w0 := below_named hw0 ((Below.refl _ _).alloc (Nat.le_refl _) _)
      have k0 := heap_named hw0 (heap_alloc_new w _)
      have hs0 := hbw0.size
      clear hw0
      refine (RM.out _ (hR.below hbw0)).mono ?_
      rintro e w1 ⟨A1, c1, rfl, hroom1, hb1⟩
      have hbw1 := hbw0.trans (hb1.mono hs0)
      have hs1 := hbw1.size
      have k1 := (hb1.block _ (heap_lt k0)).trans k0
      have hc1 := hroom1.2.cap
      unfold maxLen at hc1
      obtain ⟨hc1a, hc1b⟩ := hc1
      clear hb1 k0 hbw0
      go_wp2_with fail
      refine (RD.out A1 c1 _ hroom1.rb (by omega) (by omega) (hT.below' hbw1)).mono ?_
      intro e w2 hw2
      obtain ⟨rfl, hb2⟩ := hw2
      have hbw2 := hbw1.trans (hb2.mono hs1)
      have hs2 := hbw2.size
      have k2 := (hb2.block _ (heap_lt k1)).trans k1
      have hroom2 := hroom1.below hb2 (Nat.le_refl _)
      clear hb2 k1 hbw1 hroom1
      go_wp2_with fail
      refine calls_named fun w3 hw3 => ?_
      have hbw3 : Below w.heap.size w w3 := below_named hw3 (hbw2.alloc hs2 _)
      have hs3 := hbw3.size
      have k3 := heap_named hw3 ((heap_alloc_old w2 _ (heap_lt k2)).trans k2)
      have x3 := heap_named hw3 (heap_alloc_new w2 _)
      have hroom3 : Roomed w3 w0.heap.size A1 n c1 bs := hw3 ▸ (hroom2.below ((Below.refl w2.heap.size w2).alloc (Nat.le_refl _) _) (Nat.le_refl _))
      clear hw3 k2 hbw2 hroom2
      refine (RR.out A c _ (hR.below hbw3)).mono ?_
      intro e w4 hw4
      obtain ⟨rfl, hb4⟩ := hw4
      have hbw4 := hbw3.trans (hb4.mono hs3)
      have hs4 := hbw4.size
      have k4 := (hb4.block _ (heap_lt k3)).trans k3
      have x4 := (hb4.block _ (heap_lt x3)).trans x3
      have hroom4 := hroom3.below hb4 (Nat.le_refl _)
      have hx4 := heap_lt x4
      have hk4 := heap_lt k4
      clear hb4 k3 x3 hbw3 hroom3
      obtain ⟨ca0, ca1, ca2, ca3, ca4, ca5⟩ := cells6 k4
      go_wp2_with fail
      refine calls_named fun w5 hw5 => ?_
      have hbw5 : Below w.heap.size w w5 := below_named hw5 (hbw4.alloc hs4 _)
      have hs5 := hbw5.size
      have k5 := heap_named hw5 ((heap_alloc_old w4 _ hk4).trans k4)
      have x5 := heap_named hw5 ((heap_alloc_old w4 _ hx4).trans x4)
      have y5 := heap_named hw5 (heap_alloc_new w4 _)
      have hroom5 : Roomed w5 w0.heap.size A1 n c1 bs := hw5 ▸ (hroom4.below ((Below.refl w4.heap.size w4).alloc (Nat.le_refl _) _) (Nat.le_refl _))
      clear hw5 k4 x4 hbw4 hroom4 ca0 ca1 ca2 ca3 ca4 ca5
      refine (WR.out _ (hT.below' hbw5)).mono ?_
      rintro e w6 ⟨A6, n6, c6, rfl, hown6, hb6⟩
      obtain rfl : 16 = n6 := HL.out.symm.trans hown6.len
      have hbw6 := hbw5.trans (hb6.mono hs5)
      have hs6 := hbw6.size
      have k6 := (hb6.block _ (heap_lt k5)).trans k5
      have x6 := (hb6.block _ (heap_lt x5)).trans x5
      have y6 := (hb6.block _ (heap_lt y5)).trans y5
      have hroom6 := hroom5.below hb6 (Nat.le_refl _)
      clear hb6 k5 x5 y5 hbw5 hroom5
      obtain ⟨ca0, ca1, ca2, ca3, ca4, ca5⟩ := cells6 k6
      obtain ⟨cb0, cb1, cb2, cb3, cb4, cb5⟩ := cells6 x6
      obtain ⟨cc0, cc1, cc2, cc3, cc4, cc5⟩ := cells6 y6
      go_wp2_with fail
      refine (RW.out w6).mono ?_
      rintro e w7 ⟨A7, n7, c7, rfl, hown7, hb7⟩
      have hbw7 := hbw6.trans (hb7.mono hs6)
      have hs7 := hbw7.size
      have k7 := (hb7.block _ (heap_lt k6)).trans k6
      have hroom7 := hroom6.below hb7 (Nat.le_refl _)
      have hown67 := hown6.below hb7 (Nat.le_refl _)
      clear ca0 ca1 ca2 ca3 ca4 ca5 cb0 cb1 cb2 cb3 cb4 cb5 cc0 cc1 cc2 cc3 cc4 cc5 hb7 k6 x6 y6 hbw6 hroom6
      go_wp2_with fail
      refine (eq_any _ _ _ _ _ _ _ _ _ hown67.rb hown7.rb).mono ?_
      rintro e w' ⟨rfl, rfl⟩
      rw [beq_self]
      clear hown7
      go_wp2_with fail
      refine (KP.out _ _ _ _ hroom7 (hR.below hbw7)).mono ?_
      rintro e w' ⟨rfl, rfl⟩
      rw [beq_self]
      clear hroom7
      obtain ⟨ca0, ca1, ca2, ca3, ca4, ca5⟩ := cells6 k7
      go_wp2_with fail
      refine (WR.out _ (hT.below' hbw7)).mono ?_
      rintro e w8 ⟨A8, n8, c8, rfl, hown8, hb8⟩
      obtain rfl : 16 = n8 := HL.out.symm.trans hown8.len
      have hbw8 := hbw7.trans (hb8.mono hs7)
      have hs8 := hbw8.size
      have hown68 := hown67.below hb8 (Nat.le_refl _)
      clear ca0 ca1 ca2 ca3 ca4 ca5 hb8 k7 hbw7
      have F68 := Lib.hid (far_of hown67 hown8 (Nat.le_refl _))
      have AP : Hid (∀ cs' : Array Value, cs'.toList = [Value.slice A6 16 c6, .slice A8 16 c8] → Calls Tryd.prog 29 #[.slice (some ⟨w8.heap.size, 0, none⟩) 2 2] (w8.alloc (.cells cs' 22)) fun e w' => e = .returned (.bool true) ∧ Below w.heap.size w8 w') := fun cs' hcs' => by
        refine apart_list w8 w.heap.size [(A6, 16, c6, tb), (A8, 16, c8, tb)] 2 cs' rfl (by omega) hcs' hs8 ?_ ?_
        · intro x hx
          simp only [List.mem_cons, List.not_mem_nil, or_false] at hx
          rcases hx with rfl | rfl
          · exact ⟨hown68.lower hs5, by simp only; omega⟩
          · exact ⟨hown8.lower hs7, by simp only; omega⟩
        · simp only [List.pairwise_cons, List.mem_cons, List.not_mem_nil, or_false]
          refine ⟨fun y hy => ?_, fun y hy => hy.elim, List.Pairwise.nil⟩
          subst hy
          exact F68.out
      clear hown8 hown67 hown68 hown6
      go_wp2_with fail
      refine (AP.out _ rfl).mono ?_
      intro e w9 hw9
      obtain ⟨rfl, hb9⟩ := hw9
      have hbw9 := hbw8.trans hb9
      have hs9 := hbw9.size
      clear hb9 AP
      go_wp2_with fail
      refine (WK.out _ (hT.below' hbw9)).mono ?_
      intro e w10 hw10
      obtain ⟨rfl, hb10⟩ := hw10
      have hbw10 := hbw9.trans (hb10.mono hs9)
      clear hb10
      go_wp2
      go_ret
      exact ⟨rfl, hbw10⟩
    | some v =>
      rw [readV_some] at RD RR
      unfold tmV Tm.cells at RD RR
      obtain ⟨yv_, mov_, dv_, hv_, miv_, sv_⟩ := v
      simp only at RD RR
      have CV : Hid (∀ W, (Op.equalIn 10000 25 (.agg #[.int .u16 (yv_ : Int), .int .u8 (mov_.toNat : Int), .int .u8 (dv_.toNat : Int), .int .u8 (hv_.toNat : Int), .int .u8 (miv_.toNat : Int), .int .u8 (sv_.toNat : Int)]) (.agg #[.int .u16 (yv_ : Int), .int .u8 (mov_.toNat : Int), .int .u8 (dv_.toNat : Int), .int .u8 (hv_.toNat : Int), .int .u8 (miv_.toNat : Int), .int .u8 (sv_.toNat : Int)])).run Tryd.prog W = .ok true W) := fun W => (tm_same ⟨yv_, mov_, dv_, hv_, miv_, sv_⟩ ⟨yv_, mov_, dv_, hv_, miv_, sv_⟩ W 9998).trans (by simp)
      go_enter Tryd.func4, Tryd.ntmps4
      go_wp2_with fail
      refine calls_named fun w0 hw0 => ?_
      have hbw0 : Below w.heap.size w w0 := below_named hw0 ((Below.refl _ _).alloc (Nat.le_refl _) _)
      have k0 := heap_named hw0 (heap_alloc_new w _)
      have hs0 := hbw0.size
      clear hw0
      refine (RM.out _ (hR.below hbw0)).mono ?_
      rintro e w1 ⟨A1, c1, rfl, hroom1, hb1⟩
      have hbw1 := hbw0.trans (hb1.mono hs0)
      have hs1 := hbw1.size
      have k1 := (hb1.block _ (heap_lt k0)).trans k0
      have hc1 := hroom1.2.cap
      unfold maxLen at hc1
      obtain ⟨hc1a, hc1b⟩ := hc1
      clear hb1 k0 hbw0
      go_wp2_with fail
      refine (RD.out A1 c1 _ hroom1.rb (by omega) (by omega) (hT.below' hbw1)).mono ?_
      intro e w2 hw2
      obtain ⟨rfl, hb2⟩ := hw2
      have hbw2 := hbw1.trans (hb2.mono hs1)
      have hs2 := hbw2.size
      have k2 := (hb2.block _ (heap_lt k1)).trans k1
      have hroom2 := hroom1.below hb2 (Nat.le_refl _)
      clear hb2 k1 hbw1 hroom1
      go_wp2_with fail
      refine calls_named fun w3 hw3 => ?_
      have hbw3 : Below w.heap.size w w3 := below_named hw3 (hbw2.alloc hs2 _)
      have hs3 := hbw3.size
      have k3 := heap_named hw3 ((heap_alloc_old w2 _ (heap_lt k2)).trans k2)
      have x3 := heap_named hw3 (heap_alloc_new w2 _)
      have hroom3 : Roomed w3 w0.heap.size A1 n c1 bs := hw3 ▸ (hroom2.below ((Below.refl w2.heap.size w2).alloc (Nat.le_refl _) _) (Nat.le_refl _))
      clear hw3 k2 hbw2 hroom2
      refine (RR.out A c _ (hR.below hbw3)).mono ?_
      intro e w4 hw4
      obtain ⟨rfl, hb4⟩ := hw4
      have hbw4 := hbw3.trans (hb4.mono hs3)
      have hs4 := hbw4.size
      have k4 := (hb4.block _ (heap_lt k3)).trans k3
      have x4 := (hb4.block _ (heap_lt x3)).trans x3
      have hroom4 := hroom3.below hb4 (Nat.le_refl _)
      have hx4 := heap_lt x4
      have hk4 := heap_lt k4
      clear hb4 k3 x3 hbw3 hroom3
      obtain ⟨ca0, ca1, ca2, ca3, ca4, ca5⟩ := cells6 k4
      go_wp2_with fail
      refine calls_named fun w5 hw5 => ?_
      have hbw5 : Below w.heap.size w w5 := below_named hw5 (hbw4.alloc hs4 _)
      have hs5 := hbw5.size
      have k5 := heap_named hw5 ((heap_alloc_old w4 _ hk4).trans k4)
      have x5 := heap_named hw5 ((heap_alloc_old w4 _ hx4).trans x4)
      have y5 := heap_named hw5 (heap_alloc_new w4 _)
      have hroom5 : Roomed w5 w0.heap.size A1 n c1 bs := hw5 ▸ (hroom4.below ((Below.refl w4.heap.size w4).alloc (Nat.le_refl _) _) (Nat.le_refl _))
      clear hw5 k4 x4 hbw4 hroom4 ca0 ca1 ca2 ca3 ca4 ca5
      refine (WR.out _ (hT.below' hbw5)).mono ?_
      rintro e w6 ⟨A6, n6, c6, rfl, hown6, hb6⟩
      obtain rfl : 16 = n6 := HL.out.symm.trans hown6.len
      have hbw6 := hbw5.trans (hb6.mono hs5)
      have hs6 := hbw6.size
      have k6 := (hb6.block _ (heap_lt k5)).trans k5
      have x6 := (hb6.block _ (heap_lt x5)).trans x5
      have y6 := (hb6.block _ (heap_lt y5)).trans y5
      have hroom6 := hroom5.below hb6 (Nat.le_refl _)
      clear hb6 k5 x5 y5 hbw5 hroom5
      obtain ⟨ca0, ca1, ca2, ca3, ca4, ca5⟩ := cells6 k6
      obtain ⟨cb0, cb1, cb2, cb3, cb4, cb5⟩ := cells6 x6
      obtain ⟨cc0, cc1, cc2, cc3, cc4, cc5⟩ := cells6 y6
      have cv := CV.out
      go_wp2_with fail
      refine (RW.out w6).mono ?_
      rintro e w7 ⟨A7, n7, c7, rfl, hown7, hb7⟩
      have hbw7 := hbw6.trans (hb7.mono hs6)
      have hs7 := hbw7.size
      have k7 := (hb7.block _ (heap_lt k6)).trans k6
      have hroom7 := hroom6.below hb7 (Nat.le_refl _)
      have hown67 := hown6.below hb7 (Nat.le_refl _)
      clear ca0 ca1 ca2 ca3 ca4 ca5 cb0 cb1 cb2 cb3 cb4 cb5 cc0 cc1 cc2 cc3 cc4 cc5 hb7 k6 x6 y6 hbw6 hroom6 cv
      go_wp2_with fail
      refine (eq_any _ _ _ _ _ _ _ _ _ hown67.rb hown7.rb).mono ?_
      rintro e w' ⟨rfl, rfl⟩
      rw [beq_self]
      clear hown7
      go_wp2_with fail
      refine (KP.out _ _ _ _ hroom7 (hR.below hbw7)).mono ?_
      rintro e w' ⟨rfl, rfl⟩
      rw [beq_self]
      clear hroom7
      obtain ⟨ca0, ca1, ca2, ca3, ca4, ca5⟩ := cells6 k7
      go_wp2_with fail
      refine (WR.out _ (hT.below' hbw7)).mono ?_
      rintro e w8 ⟨A8, n8, c8, rfl, hown8, hb8⟩
      obtain rfl : 16 = n8 := HL.out.symm.trans hown8.len
      have hbw8 := hbw7.trans (hb8.mono hs7)
      have hs8 := hbw8.size
      have hown68 := hown67.below hb8 (Nat.le_refl _)
      clear ca0 ca1 ca2 ca3 ca4 ca5 hb8 k7 hbw7
      have F68 := Lib.hid (far_of hown67 hown8 (Nat.le_refl _))
      have AP : Hid (∀ cs' : Array Value, cs'.toList = [Value.slice A6 16 c6, .slice A8 16 c8] → Calls Tryd.prog 29 #[.slice (some ⟨w8.heap.size, 0, none⟩) 2 2] (w8.alloc (.cells cs' 22)) fun e w' => e = .returned (.bool true) ∧ Below w.heap.size w8 w') := fun cs' hcs' => by
        refine apart_list w8 w.heap.size [(A6, 16, c6, tb), (A8, 16, c8, tb)] 2 cs' rfl (by omega) hcs' hs8 ?_ ?_
        · intro x hx
          simp only [List.mem_cons, List.not_mem_nil, or_false] at hx
          rcases hx with rfl | rfl
          · exact ⟨hown68.lower hs5, by simp only; omega⟩
          · exact ⟨hown8.lower hs7, by simp only; omega⟩
        · simp only [List.pairwise_cons, List.mem_cons, List.not_mem_nil, or_false]
          refine ⟨fun y hy => ?_, fun y hy => hy.elim, List.Pairwise.nil⟩
          subst hy
          exact F68.out
      clear hown8 hown67 hown68 hown6
      go_wp2_with fail
      refine (AP.out _ rfl).mono ?_
      intro e w9 hw9
      obtain ⟨rfl, hb9⟩ := hw9
      have hbw9 := hbw8.trans hb9
      have hs9 := hbw9.size
      clear hb9 AP
      go_wp2_with fail
      refine (WK.out _ (hT.below' hbw9)).mono ?_
      intro e w10 hw10
      obtain ⟨rfl, hb10⟩ := hw10
      have hbw10 := hbw9.trans (hb10.mono hs9)
      clear hb10
      go_wp2
      go_ret
      exact ⟨rfl, hbw10⟩
  · unfold tmV Tm.cells
    obtain ⟨yt_, mot_, dt_, ht_, mit_, st_⟩ := t
    simp only
    have d1 : decide (4096 < (n : Int)) = true := decide_eq_true (by omega)
    go_enter Tryd.func4, Tryd.ntmps4
    go_wp2_with fail
    refine (WK.out _ (hT.alloc _)).mono ?_
    intro e w1 hw1
    obtain ⟨rfl, hb1⟩ := hw1
    have hbw1 : Below w.heap.size w w1 := ((Below.refl _ _).alloc (Nat.le_refl _) _).trans (hb1.mono (by simp))
    clear hb1
    go_wp2
    go_ret
    exact ⟨rfl, hbw1⟩
end Go.Proofs.YtepakdgpaaeelaaDoor
