/-
  option: Write.
-/
import Derived.Test.YtokklcfdfjgbjaaDoorOpA
import Derived.Test.YtokklcfdfjgbjaaDoorUp
namespace Go.Proofs.YtokklcfdfjgbjaaDoor
open Go.RowKit Go
set_option linter.unusedVariables false
set_option maxRecDepth 100000
/-- An option's bytes. -/
def optB (a : Nat) (l pb db : List UInt8) : List UInt8 := leB a 4 ++ leB pb.length 2 ++ widen l ++ [0, 0] ++ pb ++ db
theorem calls_named {P : Program} {f : FuncId} {args : Array Value} {w : World} {Q : Ending → World → Prop} (h : ∀ W, w = W → Calls P f args W Q) : Calls P f args w Q := h w rfl
theorem heap_lt {w : World} {g : Nat} {o : Obj} (h : w.heap[g]? = some o) : g < w.heap.size := (Array.getElem?_eq_some_iff.1 h).1
theorem cells4 {w : World} {g : Nat} {a0 a1 a2 a3 : Value} {t : TypeId} (hk : w.heap[g]? = some (.cells #[a0, a1, a2, a3] t)) :
    w.cell? ⟨g, 0, none⟩ = some a0 ∧ w.cell? ⟨g, 1, none⟩ = some a1 ∧ w.cell? ⟨g, 2, none⟩ = some a2 ∧ w.cell? ⟨g, 3, none⟩ = some a3 :=
  ⟨Lib.cell_of_heap hk 0, Lib.cell_of_heap hk 1, Lib.cell_of_heap hk 2, Lib.cell_of_heap hk 3⟩
/-- What Write answers of an option that has bytes. -/
def FreshE (w : World) (bs : List UInt8) (e : Ending) (w' : World) : Prop :=
  ∃ A n c, e = .returned (.tuple #[.slice A n c, .int .i64 0]) ∧ OwnB w' w.heap.size A n c bs ∧ Below w.heap.size w w'
theorem data_len (s : ByteArray) : s.data.toList.length = s.size := by simp
theorem wide_yes {bs : List UInt8} (h : bs.all letter = true) : wideS bs = widen bs := by unfold wideS; rw [if_pos h]
theorem wide_no {bs : List UInt8} (h : bs.all letter = false) : wideS bs = [] := by unfold wideS; rw [if_neg (by rw [h]; simp)]
theorem pos_of_not {bs : List UInt8} (h : bs.all letter = false) : 0 < bs.length := by
  rcases bs with _ | ⟨q, r⟩
  · cases h
  · simp
set_option maxHeartbeats 1600000 in
theorem write_yes (a : Nat) (l : ByteArray) (P : Option Addr) (pn pc : Nat) (pb : List UInt8) (D : Option Addr) (dn dc : Nat) (db : List UInt8) (w : World) (hT : Sizes w)
    (ha : a < 4294967296) (hl : l.size ≤ 1000000) (hP : RB w P pn pb) (hD : RB w D dn db) (hpn : pn ≤ 65535) (hdn : dn ≤ 1000000000) (hall : l.data.toList.all letter = true) :
    Calls Tryd.prog 12 #[.agg #[.int .u32 (a : Int), .string l, .slice P pn pc, .slice D dn dc]] w (FreshE w (optB a l.data.toList pb db)) := by
  have WD := Lib.hid (fun W => wide_any l W (by omega))
  rw [wide_yes hall] at WD
  have hwl : (widen l.data.toList).length = 2 * l.size := by rw [widen_len, data_len]
  have HW := Lib.hid hwl
  have P1 := Lib.hid (fun W h => put_ok none 0 0 [] a 4 W (RB.nil _ _) h (by omega) rfl (by omega))
  have P2 := Lib.hid (fun A n c bs W hR hs (hn : n ≤ 1000000000) => put_ok A n c bs pn 2 W hR hs hn rfl (by omega))
  have hB : optB a l.data.toList pb db = ([] ++ leB a 4 ++ leB pn 2 ++ widen l.data.toList ++ [0, 0] ++ pb) ++ db := by unfold optB; rw [hP.1]; rfl
  rw [hB]
  have h4 := leB_len a 4
  have h2 := leB_len pn 2
  clear hB hwl hall
  generalize widen l.data.toList = wl at WD HW ⊢
  generalize leB a 4 = la at P1 h4 ⊢
  generalize leB pn 2 = lp at P2 h2 ⊢
  have H4 := Lib.hid h4
  have H2 := Lib.hid h2
  have HPL := Lib.hid hP.1
  have HDL := Lib.hid hD.1
  clear h4 h2
  go_enter Tryd.func12, Tryd.ntmps12
  go_wp2_with fail
  refine calls_named fun w0 hw0 => ?_
  have hbw0 : Below w.heap.size w w0 := below_named hw0 ((Below.refl _ _).alloc (Nat.le_refl _) _)
  have k0 := heap_named hw0 (heap_alloc_new w _)
  have hs0 := hbw0.size
  clear hw0
  refine (WD.out w0).mono ?_
  rintro e w1 ⟨A1, n1, c1, rfl, hown1, hb1⟩
  obtain rfl : 2 * l.size = n1 := HW.out.symm.trans hown1.len
  have hbw1 := hbw0.trans (hb1.mono hs0)
  have hs1 := hbw1.size
  have k1 := (hb1.block _ (heap_lt k0)).trans k0
  obtain ⟨a0, a1, a2, a3⟩ := cells4 k1
  clear hb1 k0 hbw0
  go_wp2_with fail
  refine (P1.out _ (hT.below' hbw1)).mono ?_
  rintro e w2 ⟨A2, n2, c2, rfl, hown2, hb2⟩
  obtain rfl : 4 = n2 := by have := hown2.len; rw [List.nil_append, H4.out] at this; exact this
  have hbw2 := hbw1.trans (hb2.mono hs1)
  have hs2 := hbw2.size
  have k2 := (hb2.block _ (heap_lt k1)).trans k1
  have hown12 := hown1.below hb2 (Nat.le_refl _)
  have hlt2 := heap_lt k2
  clear hb2 k1 hbw1 a0 a1 a2 a3 hown1
  obtain ⟨a0, a1, a2, a3⟩ := cells4 k2
  go_wp2_with fail
  refine (P2.out _ _ _ _ _ hown2.rb (hT.below' hbw2) (by omega)).mono ?_
  rintro e w3 ⟨A3, n3, c3, rfl, hown3, hb3⟩
  obtain rfl : 6 = n3 := by have := hown3.len; rw [List.length_append, List.nil_append, H4.out, H2.out] at this; exact this
  have hbw3 := hbw2.trans (hb3.mono hs2)
  have hs3 := hbw3.size
  have k3 := (hb3.block _ (heap_lt k2)).trans k2
  have hown13 := hown12.below hb3 (Nat.le_refl _)
  have hz3 := hb3.size
  clear hb3 k2 hbw2 a0 a1 a2 a3 hown12 hown2
  obtain ⟨a0, a1, a2, a3⟩ := cells4 k3
  go_wp2_with (at_builtin; refine wpList_apn _ _ rfl rfl rfl w2.heap.size A3 6 c3 _ rfl hown3 A1 (2 * l.size) c1 _ rfl hown13.rb (by omega) (by omega) ?_)
  intro A4 c4 w4 hown4 hg4
  have hbw4 := hbw3.grown hg4 hs3 (fun g hg => by have := (hown3.blk_lt hg).1; omega)
  have hz4 := hg4.size
  have k4 := (hg4.block w.heap.size (heap_lt k3) (fun e => by have := (hown3.blk_lt e.symm).1; omega)).trans k3
  clear k3 hbw3 hown13 hown3 hg4 a0 a1 a2 a3
  go_wp2_with (at_builtin; refine wpList_app _ _ rfl rfl rfl w2.heap.size A4 (6 + 2 * l.size) c4 _ rfl (hown4.alloc _) (w4.heap.size + 1) (some ⟨w4.heap.size, 0, none⟩) 2 [0, 0] rfl (bs_new _ _ _ _ _ rfl) (by have := hown4.len; rw [this]; simp; omega) (by simp; omega) ?_)
  intro A5 c5 w5 hown5 hg5
  have hs4 : w.heap.size ≤ w4.heap.size := hbw4.size
  have hbw5 := (hbw4.alloc hs4 _).grown hg5 (by simp; omega) (fun g hg => by have := (hown4.blk_lt hg).1; omega)
  have k5 := (hg5.block w.heap.size (by have := heap_lt k4; simp; omega) (fun e => by have := (hown4.blk_lt e.symm).1; omega)).trans ((heap_alloc_old w4 _ (heap_lt k4)).trans k4)
  have hz5 := hg5.size
  have hz5' : w4.heap.size ≤ w5.heap.size := by simp at hz5; omega
  clear hg5 k4 hbw4 hown4 hz5
  obtain ⟨a0, a1, a2, a3⟩ := cells4 k5
  have hP5 : RB w5 P pn pb := hP.below hbw5
  go_wp2_with (at_builtin; refine wpList_apn _ _ rfl rfl rfl w2.heap.size A5 _ c5 _ rfl hown5 P pn pc _ rfl hP5 (by omega) (by omega) ?_)
  intro A6 c6 w6 hown6 hg6
  have hs5 : w.heap.size ≤ w5.heap.size := hbw5.size
  have hbw6 := hbw5.grown hg6 hs5 (fun g hg => by have := (hown5.blk_lt hg).1; omega)
  have k6 := (hg6.block w.heap.size (heap_lt k5) (fun e => by have := (hown5.blk_lt e.symm).1; omega)).trans k5
  have hz6 := hg6.size
  clear hg6 k5 hbw5 hown5 hP5 a0 a1 a2 a3
  obtain ⟨a0, a1, a2, a3⟩ := cells4 k6
  have hD6 : RB w6 D dn db := hD.below hbw6
  go_wp2_with (at_builtin; refine wpList_apn _ _ rfl rfl rfl w2.heap.size A6 _ c6 _ rfl hown6 D dn dc _ rfl hD6 (by omega) (by omega) ?_)
  intro A7 c7 w7 hown7 hg7
  have hs6 : w.heap.size ≤ w6.heap.size := hbw6.size
  have hbw7 := hbw6.grown hg7 hs6 (fun g hg => by have := (hown6.blk_lt hg).1; omega)
  clear hg7 k6 hbw6 hown6 hD6 a0 a1 a2 a3
  go_wp2
  go_ret2
  exact ⟨_, _, _, rfl, by simpa using hown7.lower hs2, hbw7⟩
end Go.Proofs.YtokklcfdfjgbjaaDoor
