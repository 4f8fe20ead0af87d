/-
  descr: Write.
-/
import Derived.Test.YthmmipcfabijdaaDoorDeD
import Derived.Test.YthmmipcfabijdaaDoorAppS
namespace Go.Proofs.YthmmipcfabijdaaDoor
open Go.RowKit Go
set_option linter.unusedVariables false
set_option maxRecDepth 100000
/-- What Write answers of a value that has bytes. -/
def DFreshE (w : World) (bs : List UInt8) (e : Ending) (w' : World) : Prop :=
  ∃ A n c, e = .returned (.tuple #[.slice A n c, .int .i64 0]) ∧ OwnB w' w.heap.size A n c bs ∧ Below w.heap.size w w'
set_option maxHeartbeats 3200000 in
theorem dwrite_no1 (t : Tm) (A : Option Addr) (bn bc : Nat) (bl : List UInt8) (D : Option Addr) (dn dc : Nat) (da : List UInt8) (w : World) (hT : Sizes w) (hy : t.y < 65536) (hB : RB w A bn bl) (hD : RB w D dn da) (hbn : bn ≤ 1000000) (hdn : dn ≤ 1000000) (hr : rightB t = false) :
    Calls Tryd.prog 12 #[tmV t, .slice A bn bc, .slice D dn dc] w fun e w' => e = .returned (.tuple #[.slice none 0 0, .int .i64 1]) ∧ Below w.heap.size w w' := by
  have RT := fun W => right_any t W hy
  rw [hr] at RT
  have RT := Lib.hid RT
  clear hr hB hD
  obtain ⟨y, mo, dd, hh, mi, ss⟩ := t
  simp only [tmV, Tm.cells] at *
  go_enter Tryd.func12, Tryd.ntmps12
  go_wp2_with fail
  refine calls_named fun w0 hw0 => ?_
  have hbw0 : Below w.heap.size w w0 := below_named hw0 ((Below.refl _ _).alloc (Nat.le_refl _) _)
  have k0 := heap_named hw0 (heap_alloc_new w _)
  have hs0 := hbw0.size
  clear hw0
  refine (RT.out w0).mono ?_
  intro e w1 hw1
  obtain ⟨rfl, hb1⟩ := hw1
  have hbw1 := hbw0.trans (hb1.mono hs0)
  have hs1 := hbw1.size
  have k1 := (hb1.block _ (heap_lt k0)).trans k0
  have hlt := heap_lt k1
  clear hb1 k0 hbw0 RT
  go_wp2
  go_ret2
  exact ⟨rfl, hbw1⟩
set_option maxHeartbeats 3200000 in
theorem dwrite_no2 (t : Tm) (A : Option Addr) (bn bc : Nat) (bl : List UInt8) (D : Option Addr) (dn dc : Nat) (da : List UInt8) (w : World) (hT : Sizes w) (hy : t.y < 65536) (hB : RB w A bn bl) (hD : RB w D dn da) (hbn : bn ≤ 1000000) (hdn : dn ≤ 1000000) (hr : rightB t = true) (hf : ¬ (1 ≤ bn ∧ bn ≤ 65536)) :
    Calls Tryd.prog 12 #[tmV t, .slice A bn bc, .slice D dn dc] w fun e w' => e = .returned (.tuple #[.slice none 0 0, .int .i64 1]) ∧ Below w.heap.size w w' := by
  have RT := fun W => right_any t W hy
  rw [hr] at RT
  have RT := Lib.hid RT
  have FT := fun W => fits_any (bn : Int) W
  rw [decide_eq_false (fun h => hf ⟨by omega, by omega⟩)] at FT
  have FT := Lib.hid FT
  clear hr hB hD hf
  obtain ⟨y, mo, dd, hh, mi, ss⟩ := t
  simp only [tmV, Tm.cells] at *
  go_enter Tryd.func12, Tryd.ntmps12
  go_wp2_with fail
  refine calls_named fun w0 hw0 => ?_
  have hbw0 : Below w.heap.size w w0 := below_named hw0 ((Below.refl _ _).alloc (Nat.le_refl _) _)
  have k0 := heap_named hw0 (heap_alloc_new w _)
  have hs0 := hbw0.size
  clear hw0
  refine (RT.out w0).mono ?_
  intro e w1 hw1
  obtain ⟨rfl, hb1⟩ := hw1
  have hbw1 := hbw0.trans (hb1.mono hs0)
  have hs1 := hbw1.size
  have k1 := (hb1.block _ (heap_lt k0)).trans k0
  have hlt := heap_lt k1
  clear hb1 k0 hbw0 RT
  go_wp2_with fail
  refine (FT.out _).mono ?_
  rintro e w' ⟨rfl, rfl⟩
  go_wp2
  go_ret2
  exact ⟨rfl, hbw1⟩
set_option maxHeartbeats 6400000 in
theorem dwrite_yes (t : Tm) (A : Option Addr) (bn bc : Nat) (bl : List UInt8) (D : Option Addr) (dn dc : Nat) (da : List UInt8) (w : World) (hT : Sizes w) (hy : t.y < 65536) (hB : RB w A bn bl) (hD : RB w D dn da) (hbn : bn ≤ 1000000) (hdn : dn ≤ 1000000) (hr : rightB t = true) (h1 : 1 ≤ bn) (h2 : bn ≤ 65536) :
    Calls Tryd.prog 12 #[tmV t, .slice A bn bc, .slice D dn dc] w (DFreshE w (dW t bl da)) := by
  have RT := fun W => right_any t W hy
  rw [hr] at RT
  have RT := Lib.hid RT
  have FT := fun W => fits_any (bn : Int) W
  rw [decide_eq_true ⟨by omega, by omega⟩] at FT
  have FT := Lib.hid FT
  have WR := Lib.hid (fun W (h : Sizes W) => write_any t W h hy)
  have P2 := Lib.hid (fun A n c bs W hR hs (hn : n ≤ 1000000000) => put_ok A n c bs (24 + bn) 4 W hR hs hn rfl (by omega))
  have HL := Lib.hid (tmB_len t)
  have H4 := Lib.hid (leB_len (24 + bn) 4)
  have ex : Hid (((24 + bn : Nat) : Int) = (24 : Int) + (bn : Int)) := by show _ = _; omega
  have hdw : dW t bl da = tmB t ++ leB (24 + bn) 4 ++ ({ data := #[0, 2, 241, 14, 157, 210, 175, 74, 223, 104, 238, 73, 138, 169, 52, 125, 55, 86, 101, 167] } : ByteArray).data.toList ++ bl ++ da := by unfold dW; rw [hB.1]; rfl
  rw [hdw]
  clear hr hdw
  generalize leB (24 + bn) 4 = lb at *
  generalize tmB t = tb at *
  obtain ⟨y, mo, dd, hh, mi, ss⟩ := t
  simp only [tmV, Tm.cells] at *
  go_enter Tryd.func12, Tryd.ntmps12
  go_wp2_with fail
  refine calls_named fun w0 hw0 => ?_
  have hbw0 : Below w.heap.size w w0 := below_named hw0 ((Below.refl _ _).alloc (Nat.le_refl _) _)
  have k0 := heap_named hw0 (heap_alloc_new w _)
  have hs0 := hbw0.size
  clear hw0
  refine (RT.out w0).mono ?_
  intro e w1 hw1
  obtain ⟨rfl, hb1⟩ := hw1
  have hbw1 := hbw0.trans (hb1.mono hs0)
  have hs1 := hbw1.size
  have k1 := (hb1.block _ (heap_lt k0)).trans k0
  have hlt := heap_lt k1
  clear hb1 k0 hbw0 RT
  go_wp2_with fail
  refine (FT.out _).mono ?_
  rintro e w' ⟨rfl, rfl⟩
  clear FT
  obtain ⟨a0, a1, a2, a3, a4, a5⟩ := cells6 k1
  go_wp2_with fail
  refine (WR.out w1 (hT.below' hbw1)).mono ?_
  rintro e w2 ⟨A2, n2, c2, rfl, hown2, hb2⟩
  obtain rfl : 16 = n2 := HL.out.symm.trans hown2.len
  have hbw2 := hbw1.trans (hb2.mono hs1)
  have hs2 := hbw2.size
  clear hb2 hbw1 k1 a0 a1 a2 a3 a4 a5 WR HL
  go_wp2_with fail
  rw [← ex.out]
  refine (P2.out _ _ _ _ _ hown2.rb (hT.below' hbw2) (by omega)).mono ?_
  rintro e w3 ⟨A3, n3, c3, rfl, hown3, hb3⟩
  obtain rfl : 20 = n3 := by have := hown3.len; rw [List.length_append, hown2.len, H4.out] at this; exact this
  have hbw3 := hbw2.trans (hb3.mono hs2)
  have hs3 := hbw3.size
  have hz3 := hb3.size
  clear hb3 hbw2 hown2 P2 H4 ex
  go_wp2_with (at_builtin; refine wpList_aps _ _ rfl rfl rfl w2.heap.size A3 20 c3 _ rfl hown3 { data := #[0, 2, 241, 14, 157, 210, 175, 74, 223, 104, 238, 73, 138, 169, 52, 125, 55, 86, 101, 167] } rfl (by show 20 + 20 ≤ _; omega) (by omega) ?_)
  intro A4 c4 w4 hown4 hg4
  have hbw4 := hbw3.grown hg4 hs3 (fun g hg => by have := (hown3.blk_lt hg).1; omega)
  have hz4 := hg4.size
  have hs4 := hbw4.size
  clear hg4 hbw3 hown3
  have hB4 : RB w4 A bn bl := hB.below hbw4
  have hl4 := hown4.len
  have hl4' : Hid (_ = _) := Lib.hid hl4
  clear hl4
  go_wp2_with (at_builtin; refine wpList_apn _ _ rfl rfl rfl w2.heap.size A4 _ c4 _ rfl hown4 A bn bc _ rfl hB4 (by show 20 + 20 + bn ≤ _; omega) (by omega) ?_)
  intro A5 c5 w5 hown5 hg5
  have hbw5 := hbw4.grown hg5 hs4 (fun g hg => by have := (hown4.blk_lt hg).1; omega)
  have hz5 := hg5.size
  have hs5 := hbw5.size
  clear hg5 hbw4 hown4 hB4
  have hD5 : RB w5 D dn da := hD.below hbw5
  go_wp2_with (at_builtin; refine wpList_apn _ _ rfl rfl rfl w2.heap.size A5 _ c5 _ rfl hown5 D dn dc _ rfl hD5 (by show 20 + 20 + bn + dn ≤ _; omega) (by omega) ?_)
  intro A6 c6 w6 hown6 hg6
  have hbw6 := hbw5.grown hg6 hs5 (fun g hg => by have := (hown5.blk_lt hg).1; omega)
  clear hg6 hbw5 hown5 hD5
  go_wp2
  go_ret2
  exact ⟨_, _, _, rfl, by simpa using hown6.lower hs2, hbw6⟩
end Go.Proofs.YthmmipcfabijdaaDoor
