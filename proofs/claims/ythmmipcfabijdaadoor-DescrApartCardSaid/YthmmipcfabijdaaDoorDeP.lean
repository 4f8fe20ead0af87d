/-
  descr: the document's Write and Text.
-/
import Derived.Test.YthmmipcfabijdaaDoorDeI
import Derived.Test.YthmmipcfabijdaaDoorStU
import Derived.Test.YthmmipcfabijdaaDoorOctG2
import Derived.Test.YthmmipcfabijdaaDoorStT
namespace Go.Proofs.YthmmipcfabijdaaDoor
open Go.RowKit Go
set_option linter.unusedVariables false
set_option maxRecDepth 100000
attribute [local go_sem ↓] Go.wp_at_zero Go.wp_at_succ
section
open Go.ChangeShapes Go.WideShapes Go.ChangeAt Go.Joins
theorem bytes_of_vals : ∀ l : List Value, (∀ i, i < l.length → ∃ z : Int, l[i]? = some (.int .u8 z) ∧ (Lit.int .u8 z).wf = true) → ∃ gb : List UInt8, l = gb.map bv
  | [], _ => ⟨[], rfl⟩
  | v :: l, h => by
    obtain ⟨z, h1, h2⟩ := h 0 (by simp)
    obtain ⟨gb, hg⟩ := bytes_of_vals l (fun i hi => by
      have := h (i + 1) (by simpa using hi)
      simpa using this)
    have hv : v = .int .u8 z := by simpa using h1
    refine ⟨UInt8.ofNat z.toNat :: gb, ?_⟩
    rw [List.map_cons, hv, hg]
    congr 1
    show Value.int .u8 z = .int .u8 ((UInt8.ofNat z.toNat).toNat : Int)
    rw [byte_of_wf h2]
def IsG (_w : World) (gb : List UInt8) : Prop := gb.length = 16
theorem open_p27 {H : Type} {enc : TypeId × Value → H} {W : World} {r : Reach} {b0 : Nat} {v : Value} {d : DataW H} {p : List MemPlace} (hv : Value.okWide Tryd.prog W r b0 27 v)
    (h : DataW.Trod enc Tryd.prog W 0 (fun _ => true) true 27 v d p) : ∃ x, v = gV x ∧ IsG W x := by
  simp only [Value.okWide, Tryd.underlying27] at hv
  obtain ⟨cs, rfl, hsz, _⟩ := hv
  have hsz16 : cs.size = 16 := hsz.trans (by kernel_rfl)
  obtain ⟨fuel, hf⟩ := h
  obtain ⟨xs, m, _, _, _, hlen, hg⟩ := DataW.trod_array Tryd.underlying27 hf
  have c1 : Tryd.prog.cellsOf 5 = 1 := by kernel_rfl
  have hcs : (Value.agg cs).cells.toList = cs.toList := rfl
  obtain ⟨gb, hgb⟩ := bytes_of_vals cs.toList (fun i hi => by
    have hi16 : i < 16 := by rw [← hsz16]; simpa using hi
    have h1 := hg i hi16
    rw [c1, Nat.mul_one, hcs] at h1
    have hx : i < xs.length := by omega
    rw [List.getElem?_eq_getElem hx] at h1
    have hd : (cs.toList.drop i).take 1 = [cs.toList[i]] := by
      rw [List.drop_eq_getElem_cons hi]
      rfl
    rw [hd] at h1
    obtain ⟨z, e0, _, w0⟩ := DataW.trod_int Tryd.underlying5 h1
    injection e0 with e0 _
    exact ⟨z, by rw [List.getElem?_eq_getElem hi, e0], w0⟩)
  refine ⟨gb, ?_, ?_⟩
  · unfold gV
    rw [← hgb]
  · show gb.length = 16
    have := congrArg List.length hgb
    simp at this
    omega
end
theorem ahead_any (w : World) : Calls Tryd.prog 29 #[] w (Fresh w marksL) := by
  go_enter Tryd.func29, Tryd.ntmps29
  go_wp2
  go_ret
  exact ⟨_, 20, 20, rfl, ⟨rfl, .inr ⟨w.heap.size, 20, _, rfl, Nat.le_refl _, heap_alloc_new w _, Nat.le_refl _, by unfold maxLen; omega, rfl, rfl⟩⟩, (Below.refl _ _).alloc (Nat.le_refl _) _⟩
set_option maxHeartbeats 3200000 in
theorem rwrite_no1 (t : Tm) (A : Option Addr) (bn bc : Nat) (bl : List UInt8) (D : Option Addr) (dn dc : Nat) (da : List UInt8) (w : World) (hy : t.y < 65536) (hB : RB w A bn bl) (hD : RB w D dn da) (hbn : bn ≤ 1000000) (hdn : dn ≤ 1000000) (hr : rightB t = false) :
    Calls Tryd.prog 13 #[tmV t, .slice A bn bc, .slice D dn dc] w fun e w' => e = .returned (.tuple #[.slice none 0 0, .int .i64 1]) ∧ Below w.heap.size w w' := by
  have RT := fun W => refRight_any t W hy
  rw [hr] at RT
  have RT := Lib.hid RT
  clear hr hB hD
  obtain ⟨y, mo, dd, hh, mi, ss⟩ := t
  simp only [tmV, Tm.cells] at *
  go_enter Tryd.func13, Tryd.ntmps13
  go_wp2_with fail
  refine calls_named fun w0 hw0 => ?_
  have hbw0 : Below w.heap.size w w0 := below_named hw0 ((Below.refl _ _).alloc (Nat.le_refl _) _)
  have k0 := heap_named hw0 (heap_alloc_new w _)
  have hs0 := hbw0.size
  clear hw0
  refine (RT.out w0).mono ?_
  intro e w1 hw1
  obtain ⟨rfl, hb1⟩ := hw1
  have hbw1 := hbw0.trans (hb1.mono hs0)
  have hs1 := hbw1.size
  have k1 := (hb1.block _ (heap_lt k0)).trans k0
  have hz1 : w0.heap.size ≤ w1.heap.size := hb1.size
  clear hb1 k0
  go_wp2
  go_ret2
  exact ⟨rfl, hbw1⟩
set_option maxHeartbeats 3200000 in
theorem rwrite_no2 (t : Tm) (A : Option Addr) (bn bc : Nat) (bl : List UInt8) (D : Option Addr) (dn dc : Nat) (da : List UInt8) (w : World) (hy : t.y < 65536) (hB : RB w A bn bl) (hD : RB w D dn da) (hbn : bn ≤ 1000000) (hdn : dn ≤ 1000000) (hr : rightB t = true) (hf : bn < 1) :
    Calls Tryd.prog 13 #[tmV t, .slice A bn bc, .slice D dn dc] w fun e w' => e = .returned (.tuple #[.slice none 0 0, .int .i64 1]) ∧ Below w.heap.size w w' := by
  have RT := fun W => refRight_any t W hy
  rw [hr] at RT
  have RT := Lib.hid RT
  have HEQ : ∀ W, (Op.equalIn 10000 25 (.agg t.cells) (.agg #[.int .u16 0, .int .u8 0, .int .u8 0, .int .u8 0, .int .u8 0, .int .u8 0])).run Tryd.prog W = .ok false W := fun W => (tm_same t Tm.zero W 9998).trans (by rw [decide_eq_false (ne_zero hr)])
  have q1 : decide ((bn : Int) < 1) = true := decide_eq_true (by omega)
  clear hr hB hD
  obtain ⟨y, mo, dd, hh, mi, ss⟩ := t
  simp only [tmV, Tm.cells] at *
  go_enter Tryd.func13, Tryd.ntmps13
  go_wp2_with fail
  refine calls_named fun w0 hw0 => ?_
  have hbw0 : Below w.heap.size w w0 := below_named hw0 ((Below.refl _ _).alloc (Nat.le_refl _) _)
  have k0 := heap_named hw0 (heap_alloc_new w _)
  have hs0 := hbw0.size
  clear hw0
  refine (RT.out w0).mono ?_
  intro e w1 hw1
  obtain ⟨rfl, hb1⟩ := hw1
  have hbw1 := hbw0.trans (hb1.mono hs0)
  have hs1 := hbw1.size
  have k1 := (hb1.block _ (heap_lt k0)).trans k0
  have hz1 : w0.heap.size ≤ w1.heap.size := hb1.size
  clear hb1 k0
  obtain ⟨a0, a1, a2, a3, a4, a5⟩ := cells6 k1
  have hla1 := heap_lt k1
  go_wp2
  go_ret2
  exact ⟨rfl, hbw1⟩
set_option maxHeartbeats 3200000 in
theorem rwrite_no3 (t : Tm) (A : Option Addr) (bn bc : Nat) (bl : List UInt8) (D : Option Addr) (dn dc : Nat) (da : List UInt8) (w : World) (hy : t.y < 65536) (hB : RB w A bn bl) (hD : RB w D dn da) (hbn : bn ≤ 1000000) (hdn : dn ≤ 1000000) (hr : rightB t = true) (hf : 1 ≤ bn) (hf2 : 65536 < bn) :
    Calls Tryd.prog 13 #[tmV t, .slice A bn bc, .slice D dn dc] w fun e w' => e = .returned (.tuple #[.slice none 0 0, .int .i64 1]) ∧ Below w.heap.size w w' := by
  have RT := fun W => refRight_any t W hy
  rw [hr] at RT
  have RT := Lib.hid RT
  have HEQ : ∀ W, (Op.equalIn 10000 25 (.agg t.cells) (.agg #[.int .u16 0, .int .u8 0, .int .u8 0, .int .u8 0, .int .u8 0, .int .u8 0])).run Tryd.prog W = .ok false W := fun W => (tm_same t Tm.zero W 9998).trans (by rw [decide_eq_false (ne_zero hr)])
  have q1 : decide ((bn : Int) < 1) = false := decide_eq_false (by omega)
  have q2 : decide (65536 < (bn : Int)) = true := decide_eq_true (by omega)
  clear hr hB hD
  obtain ⟨y, mo, dd, hh, mi, ss⟩ := t
  simp only [tmV, Tm.cells] at *
  go_enter Tryd.func13, Tryd.ntmps13
  go_wp2_with fail
  refine calls_named fun w0 hw0 => ?_
  have hbw0 : Below w.heap.size w w0 := below_named hw0 ((Below.refl _ _).alloc (Nat.le_refl _) _)
  have k0 := heap_named hw0 (heap_alloc_new w _)
  have hs0 := hbw0.size
  clear hw0
  refine (RT.out w0).mono ?_
  intro e w1 hw1
  obtain ⟨rfl, hb1⟩ := hw1
  have hbw1 := hbw0.trans (hb1.mono hs0)
  have hs1 := hbw1.size
  have k1 := (hb1.block _ (heap_lt k0)).trans k0
  have hz1 : w0.heap.size ≤ w1.heap.size := hb1.size
  clear hb1 k0
  obtain ⟨a0, a1, a2, a3, a4, a5⟩ := cells6 k1
  have hla1 := heap_lt k1
  go_wp2
  go_ret2
  exact ⟨rfl, hbw1⟩
set_option maxHeartbeats 6400000 in
theorem rwrite_yes (t : Tm) (A : Option Addr) (bn bc : Nat) (bl : List UInt8) (D : Option Addr) (dn dc : Nat) (da : List UInt8) (w : World) (hy : t.y < 65536) (hB : RB w A bn bl) (hD : RB w D dn da) (hbn : bn ≤ 1000000) (hdn : dn ≤ 1000000) (hr : rightB t = true) (h1 : 1 ≤ bn) (h2 : bn ≤ 65536) :
    Calls Tryd.prog 13 #[tmV t, .slice A bn bc, .slice D dn dc] w (DFreshE w (dW t bl da)) := by
  have RT := fun W => refRight_any t W hy
  rw [hr] at RT
  have RT := Lib.hid RT
  have HEQ : ∀ W, (Op.equalIn 10000 25 (.agg t.cells) (.agg #[.int .u16 0, .int .u8 0, .int .u8 0, .int .u8 0, .int .u8 0, .int .u8 0])).run Tryd.prog W = .ok false W := fun W => (tm_same t Tm.zero W 9998).trans (by rw [decide_eq_false (ne_zero hr)])
  have WR := Lib.hid (fun W => refWrite_any t W hy)
  have P2 := fun A n c bs W hR (hn : n ≤ 1000000000) => refPut_any A n c bs (24 + bn) 4 W hR hn (by omega)
  have elw : lowS (24 + bn) 4 = leB (24 + bn) 4 := rfl
  rw [elw] at P2
  have P2 := Lib.hid P2
  have HL := Lib.hid (tmB_len t)
  have H4 := Lib.hid (leB_len (24 + bn) 4)
  have AH := Lib.hid ahead_any
  have HML := Lib.hid marks_len
  have ex : Hid (((24 + bn : Nat) : Int) = (24 : Int) + (bn : Int)) := by show _ = _; omega
  have q1 : decide ((bn : Int) < 1) = false := decide_eq_false (by omega)
  have q2 : decide (65536 < (bn : Int)) = false := decide_eq_false (by omega)
  have hdw : dW t bl da = tmB t ++ leB (24 + bn) 4 ++ marksL ++ bl ++ da := by unfold dW; rw [hB.1]
  rw [hdw]
  clear hr hdw elw
  generalize leB (24 + bn) 4 = lb at *
  generalize tmB t = tb at *
  generalize marksL = ml at *
  obtain ⟨y, mo, dd, hh, mi, ss⟩ := t
  simp only [tmV, Tm.cells] at *
  go_enter Tryd.func13, Tryd.ntmps13
  go_wp2_with fail
  refine calls_named fun w0 hw0 => ?_
  have hbw0 : Below w.heap.size w w0 := below_named hw0 ((Below.refl _ _).alloc (Nat.le_refl _) _)
  have k0 := heap_named hw0 (heap_alloc_new w _)
  have hs0 := hbw0.size
  clear hw0
  refine (RT.out w0).mono ?_
  intro e w1 hw1
  obtain ⟨rfl, hb1⟩ := hw1
  have hbw1 := hbw0.trans (hb1.mono hs0)
  have hs1 := hbw1.size
  have k1 := (hb1.block _ (heap_lt k0)).trans k0
  have hz1 : w0.heap.size ≤ w1.heap.size := hb1.size
  clear hb1 k0
  obtain ⟨a0, a1, a2, a3, a4, a5⟩ := cells6 k1
  have hla1 := heap_lt k1
  have hlk1 := heap_lt k1
  go_wp2_with fail
  refine calls_named fun w2 hw2 => ?_
  have hb2 : Below w1.heap.size w1 w2 := by subst hw2; exact (Below.refl _ _).alloc (Nat.le_refl _) _
  have e2 : OwnB w2 w1.heap.size (some ⟨w1.heap.size, 0, none⟩) 0 0 [] := by subst hw2; exact own_nil w1
  clear hw2 a0 a1 a2 a3 a4 a5
  have hbw2 := hbw1.trans (hb2.mono hs1)
  have hs2 := hbw2.size
  have k2 := (hb2.block _ (heap_lt k1)).trans k1
  have hz2 : w1.heap.size ≤ w2.heap.size := hb2.size
  clear hb2 k1
  refine (WR.out w2).mono ?_
  rintro e w3 ⟨A3, n3, c3, rfl, o3, hb3⟩
  obtain rfl : 16 = n3 := HL.out.symm.trans o3.len
  have e3 := e2.below hb3 (Nat.le_refl _)
  clear e2
  have hbw3 := hbw2.trans (hb3.mono hs2)
  have hs3 := hbw3.size
  have k3 := (hb3.block _ (heap_lt k2)).trans k2
  have hz3 : w2.heap.size ≤ w3.heap.size := hb3.size
  clear hb3 k2
  go_wp2_with (at_builtin; refine wpList_apn _ _ rfl rfl rfl w1.heap.size (some ⟨w1.heap.size, 0, none⟩) 0 0 [] rfl e3 A3 16 c3 _ rfl o3.rb (by omega) (by omega) ?_)
  intro A4 c4 w4 o4 hg4
  have hbw4 := hbw3.grown hg4 hs3 (fun g hg => by have h9 : some w1.heap.size = some g := hg; injection h9 with h9; omega)
  have hz4 := hg4.size
  have hs4 := hbw4.size
  clear hg4 hbw3 k3 e3 o3
  go_wp2_with fail
  rw [← ex.out]
  refine (P2.out _ _ _ _ _ o4.rb (by omega)).mono ?_
  rintro e w5 ⟨A5, n5, c5, rfl, o5, hb5⟩
  obtain rfl : 20 = n5 := by have := o5.len; rw [List.length_append, o4.len, H4.out] at this; exact this
  have hbw5 := hbw4.trans (hb5.mono hs4)
  have hs5 := hbw5.size
  have hz5 := hb5.size
  clear hb5 hbw4 o4
  go_wp2_with fail
  refine (AH.out _).mono ?_
  rintro e w6 ⟨A6, n6, c6, rfl, o6, hb6⟩
  obtain rfl : 20 = n6 := HML.out.symm.trans o6.len
  have hbw6 := hbw5.trans (hb6.mono hs5)
  have hs6 := hbw6.size
  have hz6 := hb6.size
  have o56 := o5.below hb6 (Nat.le_refl _)
  clear hb6 hbw5 o5
  go_wp2_with (at_builtin; refine wpList_apn _ _ rfl rfl rfl w4.heap.size A5 20 c5 _ rfl o56 A6 20 c6 _ rfl o6.rb (by omega) (by omega) ?_)
  intro A7 c7 w7 o7 hg7
  have hbw7 := hbw6.grown hg7 hs6 (fun g hg => by have := (o56.blk_lt hg).1; omega)
  have hz7 := hg7.size
  have hs7 := hbw7.size
  clear hg7 hbw6 o56 o6
  have hB7 : RB w7 A bn bl := hB.below hbw7
  go_wp2_with (at_builtin; refine wpList_apn _ _ rfl rfl rfl w4.heap.size A7 _ c7 _ rfl o7 A bn bc _ rfl hB7 (by omega) (by omega) ?_)
  intro A8 c8 w8 o8 hg8
  have hbw8 := hbw7.grown hg8 hs7 (fun g hg => by have := (o7.blk_lt hg).1; omega)
  have hz8 := hg8.size
  have hs8 := hbw8.size
  clear hg8 hbw7 o7 hB7
  have hD8 : RB w8 D dn da := hD.below hbw8
  go_wp2_with (at_builtin; refine wpList_apn _ _ rfl rfl rfl w4.heap.size A8 _ c8 _ rfl o8 D dn dc _ rfl hD8 (by omega) (by omega) ?_)
  intro A9 c9 w9 o9 hg9
  have hbw9 := hbw8.grown hg9 hs8 (fun g hg => by have := (o8.blk_lt hg).1; omega)
  clear hg9 hbw8 o8 hD8
  go_wp2
  go_ret2
  exact ⟨_, _, _, rfl, by simpa using o9.lower hs4, hbw9⟩
theorem rwrite_any (t : Tm) (A : Option Addr) (bn bc : Nat) (bl : List UInt8) (D : Option Addr) (dn dc : Nat) (da : List UInt8) (w : World) (hy : t.y < 65536) (hB : RB w A bn bl) (hD : RB w D dn da) (hbn : bn ≤ 1000000) (hdn : dn ≤ 1000000) :
    Calls Tryd.prog 13 #[tmV t, .slice A bn bc, .slice D dn dc] w (DWPost w (okW t bn) (dW t bl da)) := by
  have hno : okW t bn = false → ∀ e w', (e = .returned (.tuple #[.slice none 0 0, .int .i64 1]) ∧ Below w.heap.size w w') → DWPost w (okW t bn) (dW t bl da) e w' := fun h e w' hp => by
    rw [h]
    exact ⟨none, 0, 0, hp.1, OwnB.nil _ _, hp.2⟩
  by_cases hr : rightB t = true
  · by_cases hf : 1 ≤ bn
    · by_cases hf2 : bn ≤ 65536
      · have hok : okW t bn = true := by unfold okW; rw [hr, decide_eq_true ⟨hf, hf2⟩]; rfl
        rw [hok]
        exact rwrite_yes t A bn bc bl D dn dc da w hy hB hD hbn hdn hr hf hf2
      · exact (rwrite_no3 t A bn bc bl D dn dc da w hy hB hD hbn hdn hr hf (by omega)).mono (hno (by unfold okW; rw [decide_eq_false (fun h => hf2 h.2)]; simp))
    · exact (rwrite_no2 t A bn bc bl D dn dc da w hy hB hD hbn hdn hr (by omega)).mono (hno (by unfold okW; rw [decide_eq_false (fun h => hf h.1)]; simp))
  · exact (rwrite_no1 t A bn bc bl D dn dc da w hy hB hD hbn hdn (by simpa using hr)).mono (hno (by unfold okW; rw [show rightB t = false by simpa using hr]; rfl))
set_option maxHeartbeats 6400000 in
theorem rtext_any (s : ByteArray) (gb : List UInt8) (at_ : Nat) (t : Tm) (D : Option Addr) (dn dc : Nat) (da : List UInt8) (w : World) (hs : s.size ≤ 1000000) (hg : gb.length = 16) (hat : at_ < 4294967296) (hy : t.y < 65536) (hD : RB w D dn da) (hdn : dn ≤ 1000000) :
    Calls Tryd.prog 15 #[.string s, gV gb, .int .u32 (at_ : Int), tmV t, .slice D dn dc] w (Fresh w (textL s.data.toList gb at_ t da)) := by
  have WD := Lib.hid (fun W => refWide_any s W (by omega))
  have WR := Lib.hid (fun W => refWrite_any t W hy)
  have P2 := fun A n c bs W hR (hn : n ≤ 1000000000) => refPut_any A n c bs at_ 4 W hR hn (by omega)
  have elw : lowS at_ 4 = leB at_ 4 := rfl
  rw [elw] at P2
  have HP2 := Lib.hid P2
  clear P2
  have P2 := HP2
  clear HP2
  have hwl : (wideS s.data.toList).length ≤ 2000000 := by
    unfold wideS
    split
    · rw [widen_len]; simp; omega
    · simp
  have HT16 := Lib.hid (tmB_len t)
  have H4 := Lib.hid (leB_len at_ 4)
  have HG := Lib.hid hg
  unfold textL
  clear elw
  generalize wideS s.data.toList = wl at *
  generalize leB at_ 4 = lb at *
  generalize tmB t = tb at *
  have HWL := Lib.hid hwl
  obtain ⟨y, mo, dd, hh, mi, ss⟩ := t
  simp only [tmV, Tm.cells, gV] at *
  have hcs : Hid ((gb.map bv).toArray.toList = gb.map bv) := by show _ = _; simp
  have hsz : ((gb.map bv).toArray).size = 16 := by simp [hg]
  generalize (gb.map bv).toArray = gc at *
  clear hg hwl
  go_enter Tryd.func15, Tryd.ntmps15
  go_wp2_with fail
  refine calls_named fun w0 hw0 => ?_
  have K0 : K2 w w.heap.size (.cells gc 27) (.cells #[.int .u16 (y : Int), .int .u8 (mo.toNat : Int), .int .u8 (dd.toNat : Int), .int .u8 (hh.toNat : Int), .int .u8 (mi.toNat : Int), .int .u8 (ss.toNat : Int)] 25) w0 ∧ OwnB w0 (w.heap.size + 1 + 1) (some ⟨w.heap.size + 1 + 1, 0, none⟩) 0 0 [] := by
    subst hw0
    refine ⟨⟨(((Below.refl _ _).alloc (Nat.le_refl _) _).alloc (by simp) _).alloc (by simp; omega) _, ?_, ?_⟩, ?_⟩
    · exact (heap_alloc_old _ _ (by simp; omega)).trans (heap_alloc2_old w _ _)
    · exact (heap_alloc_old _ _ (by simp)).trans (heap_alloc2_new w _ _)
    · have h9 := own_nil ((w.alloc (.cells gc 27)).alloc (.cells #[.int .u16 (y : Int), .int .u8 (mo.toNat : Int), .int .u8 (dd.toNat : Int), .int .u8 (hh.toNat : Int), .int .u8 (mi.toNat : Int), .int .u8 (ss.toNat : Int)] 25))
      have h8 : ((w.alloc (.cells gc 27)).alloc (.cells #[.int .u16 (y : Int), .int .u8 (mo.toNat : Int), .int .u8 (dd.toNat : Int), .int .u8 (hh.toNat : Int), .int .u8 (mi.toNat : Int), .int .u8 (ss.toNat : Int)] 25)).heap.size = w.heap.size + 1 + 1 := by simp
      rw [h8] at h9
      exact h9
  obtain ⟨K0, e0⟩ := K0
  clear hw0
  have hz00 : w.heap.size + 1 + 1 < w0.heap.size := (e0.blk_lt rfl).2
  have hbw0 := K0.b
  have hs0 := hbw0.size
  have k0 := K0.h2
  have q0 := K0.h1
  clear K0
  refine (WD.out w0).mono ?_
  rintro e w1 ⟨A1, n1, c1, rfl, o1, hb1⟩
  have hn1 : n1 ≤ 2000000 := by have h1 := o1.len; have h2 := HWL.out; omega
  have e1 := e0.below hb1 (Nat.le_refl _)
  clear e0
  have hbw1 := hbw0.trans (hb1.mono hs0)
  have hs1 := hbw1.size
  have k1 := (hb1.block _ (heap_lt k0)).trans k0
  have q1 := (hb1.block _ (heap_lt q0)).trans q0
  have hz1 : w0.heap.size ≤ w1.heap.size := hb1.size
  clear hb1 k0 q0
  go_wp2_with (at_builtin; refine wpList_apn _ _ rfl rfl rfl (w.heap.size + 1 + 1) (some ⟨w.heap.size + 1 + 1, 0, none⟩) 0 0 [] rfl e1 A1 n1 c1 _ rfl o1.rb (by omega) (by omega) ?_)
  intro A2 c2 w2 o2 hg2
  have hK2 : K2 w w.heap.size (.cells gc 27) (.cells #[.int .u16 (y : Int), .int .u8 (mo.toNat : Int), .int .u8 (dd.toNat : Int), .int .u8 (hh.toNat : Int), .int .u8 (mi.toNat : Int), .int .u8 (ss.toNat : Int)] 25) w2 := K2.grow ⟨hbw1, q1, k1⟩ hg2 (fun k e => by have h9 : some (w.heap.size + 1 + 1) = some k := e; injection h9 with h9; exact ⟨by omega, by omega⟩)
  have hz2 := hg2.size
  clear hg2 hbw1 k1 q1 e1 o1
  have hbw2 := hK2.b
  have hs2 := hbw2.size
  have hRG : RB w2 (some ⟨w.heap.size, 0, none⟩) 16 gb := rb_block hK2.h1 hcs.out HG.out
  have hlq2 := heap_lt hK2.h1
  have hz02 : w.heap.size + 1 + 1 ≤ w2.heap.size := heap_lt hK2.h2
  go_wp2_with (at_builtin; refine wpList_apn _ _ rfl rfl rfl (w.heap.size + 1 + 1) A2 _ c2 _ rfl o2 (some ⟨w.heap.size, 0, none⟩) 16 16 _ rfl hRG (by omega) (by omega) ?_)
  intro A3 c3 w3 o3 hg3
  have hK3 := hK2.grow hg3 (fun k e => by have := (o2.blk_lt e).1; exact ⟨by omega, by omega⟩)
  have hz3 := hg3.size
  have hbw3 := hK3.b
  have hs3 := hbw3.size
  have k3 := hK3.h2
  clear hg3 hbw2 hK2 hK3 hRG o2 hs2 hlq2
  go_wp2_with fail
  refine (P2.out _ _ _ _ _ o3.rb (by omega)).mono ?_
  rintro e w5 ⟨A5, n5, c5, rfl, hown5, hb5⟩
  have hn5 : n5 = 0 + n1 + 16 + 4 := by have h1 := hown5.len; have h2 := o3.len; have h3 := H4.out; rw [List.length_append, h2, h3] at h1; omega
  have hn5' : n5 ≤ 3000000 := by omega
  clear hn5
  have hbw5 := hbw3.trans (hb5.mono hs3)
  have hs5 := hbw5.size
  have k5 := (hb5.block _ (heap_lt k3)).trans k3
  have hl5 := heap_lt k5
  have hz5 := hb5.size
  clear hb5 k3 hbw3 o3
  obtain ⟨a0, a1, a2, a3, a4, a5⟩ := cells6 k5
  go_wp2_with fail
  refine (WR.out w5).mono ?_
  rintro e w6 ⟨A6, n6, c6, rfl, hown6, hb6⟩
  obtain rfl : 16 = n6 := HT16.out.symm.trans hown6.len
  have hbw6 := hbw5.trans (hb6.mono hs5)
  have hs6 := hbw6.size
  have hown56 := hown5.below hb6 (Nat.le_refl _)
  have hz6 := hb6.size
  clear hb6 k5 hbw5 hown5 a0 a1 a2 a3 a4 a5
  go_wp2_with (at_builtin; refine wpList_apn _ _ rfl rfl rfl w3.heap.size A5 n5 c5 _ rfl hown56 A6 16 c6 _ rfl hown6.rb (by omega) (by omega) ?_)
  intro A7 c7 w7 hown7 hg7
  have hbw7 := hbw6.grown hg7 hs6 (fun g hg => by have := (hown56.blk_lt hg).1; omega)
  have hz7 := hg7.size
  have hs7 := hbw7.size
  clear hg7 hbw6 hown56 hown6
  have hD7 : RB w7 D dn da := hD.below hbw7
  go_wp2_with (at_builtin; refine wpList_apn _ _ rfl rfl rfl w3.heap.size A7 _ c7 _ rfl hown7 D dn dc _ rfl hD7 (by omega) (by omega) ?_)
  intro A8 c8 w8 hown8 hg8
  have hbw8 := hbw7.grown hg8 hs7 (fun g hg => by have := (hown7.blk_lt hg).1; omega)
  clear hg8 hbw7 hown7 hD7
  go_wp2
  go_ret
  exact ⟨_, _, _, rfl, by simpa using hown8.lower hs3, hbw8⟩
end Go.Proofs.YthmmipcfabijdaaDoor
