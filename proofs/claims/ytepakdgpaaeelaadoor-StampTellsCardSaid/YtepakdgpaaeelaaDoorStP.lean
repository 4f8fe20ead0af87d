/-
  stamp: the digits of a moment, as the statements write them.
-/
import Derived.Test.YtepakdgpaaeelaaDoorStN
import Derived.LoopTactic
namespace Go.Proofs.YtepakdgpaaeelaaDoor
open Go.RowKit Go
set_option linter.unusedVariables false
set_option maxRecDepth 100000
def dig (x : Nat) : UInt8 := UInt8.ofNat (48 + x % 10)
def dig2 (x : Nat) : List UInt8 := [dig (x / 10), dig x]
theorem dig_num (x : Nat) : (dig x).toNat = 48 + x % 10 := by unfold dig; rw [UInt8.toNat_ofNat']; omega
theorem own_new (w : World) (bs : List UInt8) (n : Nat) (cs : Array Value) (h : cs.toList = bs.map bv) (hn : bs.length = n) (hm : n ≤ 1000000) :
    OwnB (w.alloc (.cells cs 5)) w.heap.size (some ⟨w.heap.size, 0, none⟩) n n bs := by
  have hl : cs.size = n := by rw [← Array.length_toList, h, List.length_map, hn]
  refine ⟨by simp [hn], .inr ⟨w.heap.size, n, cs, rfl, Nat.le_refl _, heap_alloc_new w _, Nat.le_refl _, by unfold maxLen; omega, by omega, ?_⟩⟩
  rw [h, List.take_of_length_le (by simp; omega)]
theorem two_any (x : Nat) (hx : x < 100) (w : World) : Calls Tryd.prog 43 #[.int .i64 (x : Int)] w (Fresh w (dig2 x)) := by
  have e1 : (x : Int) / 10 = ((x / 10 : Nat) : Int) := by omega
  have e2 : (x : Int) % 10 = ((x % 10 : Nat) : Int) := by omega
  have hd1 : (48 : Int) + (x : Int) / 10 = ((dig (x / 10)).toNat : Int) := by rw [dig_num]; omega
  have hd2 : (48 : Int) + (x : Int) % 10 = ((dig x).toNat : Int) := by rw [dig_num]; omega
  have H1 := Lib.hid hd1
  have H2 := Lib.hid hd2
  clear e1 e2 hd1 hd2
  go_enter Tryd.func43, Tryd.ntmps43
  go_wp2
  go_ret
  refine ⟨_, _, _, rfl, own_new w (dig2 x) 2 _ ?_ rfl (by omega), (Below.refl _ _).alloc (Nat.le_refl _) _⟩
  simp [dig2, bv, H1.out, H2.out]
/-- A moment's seven numbers of two digits. -/
def Tm.duo (t : Tm) (k : Nat) : Nat := match k with
  | 0 => t.y / 100
  | 1 => t.y % 100
  | 2 => t.mo.toNat
  | 3 => t.d.toNat
  | 4 => t.h.toNat
  | 5 => t.mi.toNat
  | _ => t.s.toNat
def digs (f : Nat → Nat) : Nat → List UInt8
  | 0 => []
  | k + 1 => digs f k ++ dig2 (f k)
theorem digs_len (f : Nat → Nat) : ∀ k, (digs f k).length = 2 * k
  | 0 => rfl
  | k + 1 => by unfold digs; rw [List.length_append, digs_len f k]; show 2 * k + 2 = _; omega
/-- Its digits, with a Z. -/
def textB (t : Tm) : List UInt8 := digs t.duo 7 ++ [90]
theorem seven {P : Nat → Prop} (h0 : P 0) (h1 : P 1) (h2 : P 2) (h3 : P 3) (h4 : P 4) (h5 : P 5) (h6 : P 6) : ∀ k, k < 7 → P k := fun k hk => by
  match k, hk with
  | 0, _ => exact h0
  | 1, _ => exact h1
  | 2, _ => exact h2
  | 3, _ => exact h3
  | 4, _ => exact h4
  | 5, _ => exact h5
  | 6, _ => exact h6
theorem duo_lt {t : Tm} (h : rightB t = true) : ∀ k, k < 7 → t.duo k < 100 := by
  have := of_decide_eq_true h
  have h2 := daysN_le t.y t.mo.toNat
  refine seven ?_ ?_ ?_ ?_ ?_ ?_ ?_ <;> (unfold Tm.duo; simp only; omega)
set_option maxHeartbeats 1600000 in
theorem text_any (t : Tm) (w : World) (hr : rightB t = true) : Calls Tryd.prog 30 #[tmV t] w (Fresh w (textB t)) := by
  have HD := Lib.hid (duo_lt hr)
  have hy := right_year hr
  have b1 := t.mo.toNat_lt
  have b2 := t.d.toNat_lt
  have b3 := t.h.toNat_lt
  have b4 := t.mi.toNat_lt
  have b5 := t.s.toNat_lt
  have TW := Lib.hid two_any
  have HLD := Lib.hid (digs_len t.duo)
  have hT : textB t = digs t.duo 7 ++ [90] := rfl
  rw [hT]
  obtain ⟨h1, h2⟩ := hy
  have q0 : (t.y : Int) / 100 = ((t.duo 0 : Nat) : Int) := by show _ = ((t.y / 100 : Nat) : Int); omega
  have q1 : (t.y : Int) % 100 = ((t.duo 1 : Nat) : Int) := by show _ = ((t.y % 100 : Nat) : Int); omega
  have Q0 := Lib.hid q0
  have Q1 := Lib.hid q1
  have hcell : Hid (∀ (W : World) k, k < 7 → (W.alloc (.cells #[.int .i64 (t.duo 0 : Int), .int .i64 (t.duo 1 : Int), .int .i64 (t.duo 2 : Int), .int .i64 (t.duo 3 : Int), .int .i64 (t.duo 4 : Int), .int .i64 (t.duo 5 : Int), .int .i64 (t.duo 6 : Int)] 3)).cell? ⟨W.heap.size, k, none⟩ = some (.int .i64 (t.duo k : Int))) := fun W => by
    refine seven ?_ ?_ ?_ ?_ ?_ ?_ ?_ <;> (rw [World.cell?_alloc_new]; rfl)
  have eqs : t.mo.toNat = t.duo 2 ∧ t.d.toNat = t.duo 3 ∧ t.h.toNat = t.duo 4 ∧ t.mi.toNat = t.duo 5 ∧ t.s.toNat = t.duo 6 := ⟨rfl, rfl, rfl, rfl, rfl⟩
  clear hr hT q0 q1
  unfold tmV Tm.cells
  generalize t.duo = f at *
  obtain ⟨y, mo, d, h', mi, s'⟩ := t
  simp only at *
  obtain ⟨r2, r3, r4, r5, r6⟩ := eqs
  have EQ : Hid (#[Value.int .i64 ((y : Int) / 100), .int .i64 ((y : Int) % 100), .int .i64 (mo.toNat : Int), .int .i64 (d.toNat : Int), .int .i64 (h'.toNat : Int), .int .i64 (mi.toNat : Int), .int .i64 (s'.toNat : Int)] = #[.int .i64 (f 0 : Int), .int .i64 (f 1 : Int), .int .i64 (f 2 : Int), .int .i64 (f 3 : Int), .int .i64 (f 4 : Int), .int .i64 (f 5 : Int), .int .i64 (f 6 : Int)]) := by
    rw [Hid, Q0.out, Q1.out, r2, r3, r4, r5, r6]
  clear r2 r3 r4 r5 r6 Q0 Q1
  go_enter Tryd.func30, Tryd.ntmps30
  go_wp2
  refine wp_named fun W1 hW1 => ?_
  have hbw : Below w.heap.size w W1 := below_named hW1 (((Below.refl _ _).alloc (Nat.le_refl _) _).alloc (by simp) _)
  have k1 := heap_named hW1 (heap_alloc2_new w _ _)
  rw [EQ.out] at k1
  have hlt1 := heap_lt k1
  have HC : Hid (∀ (W : World), Below W1.heap.size W1 W → ∀ k, k < 7 → W.cell? ⟨w.heap.size + 1, k, none⟩ = some (.int .i64 (f k : Int))) := fun W hW => by
    have k2 := (hW.block _ hlt1).trans k1
    refine seven ?_ ?_ ?_ ?_ ?_ ?_ ?_
    · exact Lib.cell_of_heap k2 0
    · exact Lib.cell_of_heap k2 1
    · exact Lib.cell_of_heap k2 2
    · exact Lib.cell_of_heap k2 3
    · exact Lib.cell_of_heap k2 4
    · exact Lib.cell_of_heap k2 5
    · exact Lib.cell_of_heap k2 6
  have hsw := hbw.size
  clear k1 hW1 EQ hcell hlt1
  go_loopw [4, 5] (fun v i wr => ∃ k A2 c2, k ≤ 7 ∧ i = .int .i64 (k : Nat) ∧ v = .slice A2 (2 * k) c2 ∧ OwnB wr W1.heap.size A2 (2 * k) c2 (digs f k) ∧ Below W1.heap.size W1 wr) (fun _ i _ => 7 - (intOf i).toNat)
  case atStart => exact ⟨0, none, 0, by omega, rfl, rfl, OwnB.nil _ _, Below.refl _ _⟩
  case round =>
    obtain ⟨k, A2, c2, hk, rfl, rfl, hown, hbr⟩ := hrel
    have hsr := hbr.size
    by_cases hlt : k < 7
    · have hc := HC.out wr hbr k hlt
      have hst : Hid (digs f (k + 1) = digs f k ++ dig2 (f k)) := rfl
      have hf := HD.out k hlt
      generalize f k = x at hc hst hf
      have q2 : (0 : Int) ≤ (k : Int) := by omega
      have q3 : (k : Int) < 7 := by omega
      go_wp2_with fail
      refine (TW.out x hf _).mono ?_
      rintro e w2 ⟨A3, n3, c3, rfl, hown3, hb3⟩
      obtain rfl : 2 = n3 := hown3.len
      have hown' := hown.below hb3 (Nat.le_refl _)
      have hrb := hown3.rb
      have hbr2 := hbr.trans (hb3.mono hsr)
      have hsr2 := hbr2.size
      clear hown hown3 hb3 hc
      go_wp2_with (at_builtin; refine wpList_apn _ _ rfl rfl rfl W1.heap.size A2 _ c2 _ rfl hown' A3 2 c3 _ rfl hrb (by omega) hsr2 ?_)
      intro A4 c4 w4 hown4 hg4
      have hbr4 := hbr2.grown hg4 hsr2 (fun g hg => (hown'.blk_lt hg).1)
      have hown5 : OwnB w4 W1.heap.size A4 (2 * (k + 1)) c4 (digs f (k + 1)) := by rw [hst.out]; exact hown4
      have he : Hid (2 * k + 2 = 2 * (k + 1)) := by show _ = _; omega
      clear hown4 hg4 hown' hrb hst
      go_wp2
      go_roundw
      case rel => exact ⟨k + 1, A4, c4, by omega, by go_num, by rw [he.out], hown5, hbr4⟩
      case measure => simp [intOf]; omega
    · obtain rfl : k = 7 := by omega
      go_wp2_with (at_builtin; refine wpList_app _ _ rfl rfl rfl W1.heap.size A2 _ c2 _ rfl (hown.alloc _) (wr.heap.size + 1) (some ⟨wr.heap.size, 0, none⟩) 1 [90] rfl (bs_new _ _ _ _ _ rfl) (by rw [HLD.out]; simp) (by simp; omega) ?_)
      intro A4 c4 w4 hown4 hg4
      have hbr4 := (hbr.alloc hsr _).grown hg4 (by simp; omega) (fun g hg => (hown.blk_lt hg).1)
      clear hg4 hown
      go_wp2
      go_ret
      exact ⟨A4, _, c4, rfl, hown4.lower hsw, hbw.trans (hbr4.mono hsw)⟩
end Go.Proofs.YtepakdgpaaeelaaDoor
