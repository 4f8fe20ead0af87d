/-
  option: the statement on sizes.
-/
import Derived.Test.YtokklcfdfjgbjaaDoorOpG
import Derived.Test.YtokklcfdfjgbjaaDoorRows
import Derived.MakeChecks
namespace Go.Proofs.YtokklcfdfjgbjaaDoor
open Go.RowKit Go
set_option linter.unusedVariables false
set_option maxRecDepth 100000
/-- WHAT THE ROWS' CONDITION GIVES THE WALKS. -/
theorem of_laid {W : World} (h : laidMetH Tryd.prog Rows.optionSizesRow.laid W) : Sizes W := by
  rw [MakeChecks.laidMetH_plain _ _ _ (by kernel_rfl)] at h
  have ht : Lib.TabIs Tryd.prog W "lintel/octet.sizes" .i64 sizesZ :=
    Lib.tabIs_of_head (rest := []) g_sizes (show (Tryd.prog.globals[0]?).map (·.type) = some 66 by kernel_rfl) Tryd.underlying66 Tryd.underlying3 (by kernel_rfl) (by kernel_rfl) h
  exact ⟨by have := World.var?_cell g_sizes ht 0; have := World.block_lt_of_cell? W _ (this.trans (show _ = some (.int .i64 1) from rfl)); exact this, ht⟩
theorem large_no (a : Nat) (l : ByteArray) (P : Option Addr) (pn pc : Nat) (D : Option Addr) (dn dc : Nat) (w : World) (h1 : l.size ≤ 16384) (h2 : dn ≤ 65536) :
    Calls Tryd.prog 9 #[.agg #[.int .u32 (a : Int), .string l, .slice P pn pc, .slice D dn dc]] w fun e w' => e = .returned (.bool false) ∧ Below w.heap.size w w' := by
  have d1 : decide (16384 < (l.size : Int)) = false := decide_eq_false (by omega)
  have d2 : decide (65536 < (dn : Int)) = false := decide_eq_false (by omega)
  go_enter Tryd.func9, Tryd.ntmps9
  go_wp2
  go_ret
  exact ⟨rfl, (Below.refl _ _).alloc (Nat.le_refl _) _⟩
theorem large_yes (a : Nat) (l : ByteArray) (P : Option Addr) (pn pc : Nat) (D : Option Addr) (dn dc : Nat) (w : World) (h : 16384 < l.size ∨ 65536 < dn) (hl9 : l.size ≤ 9223372036854775807) (hd9 : dn ≤ 9223372036854775807) :
    Calls Tryd.prog 9 #[.agg #[.int .u32 (a : Int), .string l, .slice P pn pc, .slice D dn dc]] w fun e w' => e = .returned (.bool true) ∧ Below w.heap.size w w' := by
  by_cases h1 : 16384 < l.size
  · have d1 : decide (16384 < (l.size : Int)) = true := decide_eq_true (by omega)
    clear h
    go_enter Tryd.func9, Tryd.ntmps9
    go_wp2
    go_ret
    exact ⟨rfl, (Below.refl _ _).alloc (Nat.le_refl _) _⟩
  · have d1 : decide (16384 < (l.size : Int)) = false := decide_eq_false (by omega)
    have d2 : decide (65536 < (dn : Int)) = true := decide_eq_true (by omega)
    clear h
    go_enter Tryd.func9, Tryd.ntmps9
    go_wp2
    go_ret
    exact ⟨rfl, (Below.refl _ _).alloc (Nat.le_refl _) _⟩
def okR (pn : Nat) (l : List UInt8) (i : Nat) : Bool := decide (pn < 65536) && (l.take i).all letter
theorem okR_zero (pn : Nat) (l : List UInt8) : okR pn l 0 = decide (pn < 65536) := by simp [okR]
theorem okR_succ (pn : Nat) (l : ByteArray) (i : Nat) (h : i < l.size) : okR pn l.data.toList (i + 1) = (okR pn l.data.toList i && letter (l[i]'h)) := by
  have e : l.data.toList.take (i + 1) = l.data.toList.take i ++ [l[i]'h] := by rw [List.take_succ_eq_append_getElem (by simpa using h)]; rfl
  unfold okR
  rw [e, List.all_append]
  simp [Bool.and_assoc]
theorem okR_all (pn : Nat) (l : ByteArray) : okR pn l.data.toList l.size = (decide (pn < 65536) && l.data.toList.all letter) := by
  unfold okR
  rw [List.take_of_length_le (by simp)]
set_option maxHeartbeats 3200000 in
theorem sizes_walk (a : Nat) (l : ByteArray) (P : Option Addr) (pn pc : Nat) (pb : List UInt8) (D : Option Addr) (dn dc : Nat) (db : List UInt8) (w : World) (ha : a < 4294967296) (hP : RB w P pn pb) (hD : RB w D dn db) (hT : Sizes w)
    (h1 : l.size ≤ 16384) (h2 : dn ≤ 65536) (h3 : pn ≤ 131072) (ok : Bool) (hok : (decide (pn < 65536) && l.data.toList.all letter) = ok) :
    Calls Tryd.prog 7 #[.agg #[.int .u32 (a : Int), .string l, .slice P pn pc, .slice D dn dc]] w fun e w' => e = .returned (.bool true) ∧ Below w.heap.size w w' := by
  have WK := Lib.hid (fun W (h : Sizes W) => works_any W h)
  have LN := Lib.hid (fun W => large_no a l P pn pc D dn dc W h1 h2)
  have hlast := okR_all pn l
  rw [hok] at hlast
  have HLAST := Lib.hid hlast
  have d3 : decide (131072 < (pn : Int)) = false := decide_eq_false (by omega)
  have e0 : (decide (pn < 65536)) = okR pn l.data.toList 0 := (okR_zero pn l.data.toList).symm
  have E0 := Lib.hid e0
  have HS := Lib.hid (okR_succ pn l)
  have HB := Lib.hid (optB_len a l.data.toList pb db)
  have HPL := Lib.hid hP.1
  have HDL := Lib.hid hD.1
  have HSZ := Lib.hid (data_len l)
  have WY : Hid (ok = true → ∀ W, Sizes W → RB W P pn pb → RB W D dn db → Calls Tryd.prog 12 #[.agg #[.int .u32 (a : Int), .string l, .slice P pn pc, .slice D dn dc]] W (FreshE W (optB a l.data.toList pb db))) := fun h W hs hp hd => by
    rw [h] at hok
    simp only [Bool.and_eq_true, decide_eq_true_eq] at hok
    exact write_yes a l P pn pc pb D dn dc db W hs ha (by omega) hp hd (by omega) (by omega) hok.2
  have WN : Hid (ok = false → ∀ W, Calls Tryd.prog 12 #[.agg #[.int .u32 (a : Int), .string l, .slice P pn pc, .slice D dn dc]] W fun e w' => e = .returned (.tuple #[.slice none 0 0, .int .i64 1]) ∧ Below W.heap.size W w') := fun h W => by
    rw [h] at hok
    refine write_no a l P pn pc D dn dc W (by omega) (by omega) ?_
    cases hal : l.data.toList.all letter with
    | false => exact .inl rfl
    | true => rw [hal] at hok; simp at hok; exact .inr (by omega)
  generalize optB a l.data.toList pb db = ob at WY HB
  generalize l.data.toList = ll at HLAST HB HS E0 HSZ hok hlast e0
  clear hok hlast e0
  cases ok with
  | true =>
    go_enter Tryd.func7, Tryd.ntmps7
    go_wp2_with fail
    refine calls_named fun w0 hw0 => ?_
    have hbw0 : Below w.heap.size w w0 := below_named hw0 ((Below.refl _ _).alloc (Nat.le_refl _) _)
    have k0 := heap_named hw0 (heap_alloc_new w _)
    have hs0 := hbw0.size
    clear hw0
    refine (LN.out w0).mono ?_
    intro e w1 hw1
    obtain ⟨rfl, hb1⟩ := hw1
    have hbw1 := hbw0.trans (hb1.mono hs0)
    have hs1 := hbw1.size
    have k1 := (hb1.block _ (heap_lt k0)).trans k0
    clear hb1 k0 hbw0 hs0
    obtain ⟨a0, a1, a2, a3⟩ := cells4 k1
    go_wp2_with fail
    refine (WY.out (by first | rfl | trivial) w1 (hT.below' hbw1) (hP.below hbw1) (hD.below hbw1)).mono ?_
    rintro e w2 ⟨A2, n2, c2, rfl, hown2, hb2⟩
    have hn2 : n2 = 8 + 2 * l.size + pn + dn := by rw [← hown2.len, HB.out, HPL.out, HDL.out, HSZ.out]
    have HN2 := Lib.hid hn2
    have hn9 : n2 ≤ 1000000 := by omega
    clear hn2 hown2
    have hbw2 := hbw1.trans (hb2.mono hs1)
    have hs2 := hbw2.size
    have k2 := (hb2.block _ (heap_lt k1)).trans k1
    clear hb2 k1 hbw1 hs1 a0 a1 a2 a3
    obtain ⟨a0, a1, a2, a3⟩ := cells4 k2
    have q0 : decide ((pn : Int) < 65536) = okR pn ll 0 := by rw [← E0.out, decide_eq_decide]; omega
    have q0' : decide (pn < 65536) = okR pn ll 0 := E0.out
    go_wp2
    go_loopw [5, 6] (fun r i wr => ∃ k : Nat, k ≤ l.size ∧ i = .int .i64 k ∧ r = .bool (okR pn ll k) ∧ wr = w2) (fun _ i _ => l.size - (intOf i).toNat)
    case atStart => exact ⟨0, by omega, rfl, rfl, rfl⟩
    case round =>
      obtain ⟨k, hk, rfl, rfl, rfl⟩ := hrel
      clear q0 q0'
      by_cases hlt : k < l.size
      · have hs := HS.out k hlt
        have hqb := (l[k]'hlt).toNat_lt
        have hcs : (okR pn ll k = false ∧ okR pn ll (k + 1) = false) ∨ (okR pn ll k = true ∧ (l[k]'hlt).toNat < 1 ∧ okR pn ll (k + 1) = false) ∨ (okR pn ll k = true ∧ 1 ≤ (l[k]'hlt).toNat ∧ 127 < (l[k]'hlt).toNat ∧ okR pn ll (k + 1) = false) ∨ (okR pn ll k = true ∧ 1 ≤ (l[k]'hlt).toNat ∧ (l[k]'hlt).toNat ≤ 127 ∧ okR pn ll (k + 1) = true) := by
          rw [hs]
          cases hr : okR pn ll k with
          | false => exact .inl ⟨rfl, rfl⟩
          | true =>
            unfold letter
            by_cases p1 : 1 ≤ (l[k]'hlt).toNat
            · by_cases p2 : (l[k]'hlt).toNat ≤ 127
              · exact .inr (.inr (.inr ⟨rfl, p1, p2, by simp [p1, p2]⟩))
              · exact .inr (.inr (.inl ⟨rfl, p1, by omega, by simp [p2]⟩))
            · exact .inr (.inl ⟨rfl, by omega, by simp [p1]⟩)
        clear hs
        rcases hcs with ⟨hr, hr1⟩ | ⟨hr, p1, hr1⟩ | ⟨hr, p1, p2, hr1⟩ | ⟨hr, p1, p2, hr1⟩
        · rw [hr]
          have H1 := Lib.hid hr1
          clear hr hr1
          go_wp2
          go_roundw
          case rel => exact ⟨k + 1, by omega, by go_num, by rw [H1.out], by first | rfl | trivial⟩
          case measure => simp [intOf]; omega
        · rw [hr]
          have g1 : decide (1 ≤ ((l[k]'hlt).toNat : Int)) = false := decide_eq_false (by omega)
          have H1 := Lib.hid hr1
          clear hr hr1
          go_wp2
          go_roundw
          case rel => exact ⟨k + 1, by omega, by go_num, by rw [H1.out], by first | rfl | trivial⟩
          case measure => simp [intOf]; omega
        · rw [hr]
          have g1 : decide (1 ≤ ((l[k]'hlt).toNat : Int)) = true := decide_eq_true (by omega)
          have g2 : decide (((l[k]'hlt).toNat : Int) ≤ 127) = false := decide_eq_false (by omega)
          have H1 := Lib.hid hr1
          clear hr hr1
          go_wp2
          go_roundw
          case rel => exact ⟨k + 1, by omega, by go_num, by rw [H1.out], by first | rfl | trivial⟩
          case measure => simp [intOf]; omega
        · rw [hr]
          have g1 : decide (1 ≤ ((l[k]'hlt).toNat : Int)) = true := decide_eq_true (by omega)
          have g2 : decide (((l[k]'hlt).toNat : Int) ≤ 127) = true := decide_eq_true (by omega)
          have H1 := Lib.hid hr1
          clear hr hr1
          go_wp2
          go_roundw
          case rel => exact ⟨k + 1, by omega, by go_num, by rw [H1.out], by first | rfl | trivial⟩
          case measure => simp [intOf]; omega
      · obtain rfl : l.size = k := by omega
        have hlast := HLAST.out
        rw [hlast]
        clear hlast HLAST HS E0
        have hsum : (n2 : Int) = 8 + 2 * (l.size : Int) + (pn : Int) + (dn : Int) := by have := HN2.out; omega
        have HSUM := Lib.hid hsum
        have e1 : ((n2 : Int) == 8 + 2 * (l.size : Int) + (pn : Int) + (dn : Int)) = true := by rw [beq_iff_eq]; exact hsum
        clear hsum
        go_wp2_with fail
        refine (WK.out _ (hT.below' hbw2)).mono ?_
        intro e w9 hw9
        obtain ⟨rfl, hb9⟩ := hw9
        have hbw9 := hbw2.trans (hb9.mono hs2)
        clear hb9
        go_wp2
        go_ret
        exact ⟨rfl, hbw9⟩
  | false =>
    go_enter Tryd.func7, Tryd.ntmps7
    go_wp2_with fail
    refine calls_named fun w0 hw0 => ?_
    have hbw0 : Below w.heap.size w w0 := below_named hw0 ((Below.refl _ _).alloc (Nat.le_refl _) _)
    have k0 := heap_named hw0 (heap_alloc_new w _)
    have hs0 := hbw0.size
    clear hw0
    refine (LN.out w0).mono ?_
    intro e w1 hw1
    obtain ⟨rfl, hb1⟩ := hw1
    have hbw1 := hbw0.trans (hb1.mono hs0)
    have hs1 := hbw1.size
    have k1 := (hb1.block _ (heap_lt k0)).trans k0
    clear hb1 k0 hbw0 hs0
    obtain ⟨a0, a1, a2, a3⟩ := cells4 k1
    go_wp2_with fail
    refine (WN.out (by first | rfl | trivial) w1).mono ?_
    intro e w2 hw2
    obtain ⟨rfl, hb2⟩ := hw2
    have hbw2 := hbw1.trans (hb2.mono hs1)
    have hs2 := hbw2.size
    have k2 := (hb2.block _ (heap_lt k1)).trans k1
    clear hb2 k1 hbw1 hs1 a0 a1 a2 a3
    obtain ⟨a0, a1, a2, a3⟩ := cells4 k2
    have q0 : decide ((pn : Int) < 65536) = okR pn ll 0 := by rw [← E0.out, decide_eq_decide]; omega
    have q0' : decide (pn < 65536) = okR pn ll 0 := E0.out
    go_wp2
    go_loopw [5, 6] (fun r i wr => ∃ k : Nat, k ≤ l.size ∧ i = .int .i64 k ∧ r = .bool (okR pn ll k) ∧ wr = w2) (fun _ i _ => l.size - (intOf i).toNat)
    case atStart => exact ⟨0, by omega, rfl, rfl, rfl⟩
    case round =>
      obtain ⟨k, hk, rfl, rfl, rfl⟩ := hrel
      clear q0 q0'
      by_cases hlt : k < l.size
      · have hs := HS.out k hlt
        have hqb := (l[k]'hlt).toNat_lt
        have hcs : (okR pn ll k = false ∧ okR pn ll (k + 1) = false) ∨ (okR pn ll k = true ∧ (l[k]'hlt).toNat < 1 ∧ okR pn ll (k + 1) = false) ∨ (okR pn ll k = true ∧ 1 ≤ (l[k]'hlt).toNat ∧ 127 < (l[k]'hlt).toNat ∧ okR pn ll (k + 1) = false) ∨ (okR pn ll k = true ∧ 1 ≤ (l[k]'hlt).toNat ∧ (l[k]'hlt).toNat ≤ 127 ∧ okR pn ll (k + 1) = true) := by
          rw [hs]
          cases hr : okR pn ll k with
          | false => exact .inl ⟨rfl, rfl⟩
          | true =>
            unfold letter
            by_cases p1 : 1 ≤ (l[k]'hlt).toNat
            · by_cases p2 : (l[k]'hlt).toNat ≤ 127
              · exact .inr (.inr (.inr ⟨rfl, p1, p2, by simp [p1, p2]⟩))
              · exact .inr (.inr (.inl ⟨rfl, p1, by omega, by simp [p2]⟩))
            · exact .inr (.inl ⟨rfl, by omega, by simp [p1]⟩)
        clear hs
        rcases hcs with ⟨hr, hr1⟩ | ⟨hr, p1, hr1⟩ | ⟨hr, p1, p2, hr1⟩ | ⟨hr, p1, p2, hr1⟩
        · rw [hr]
          have H1 := Lib.hid hr1
          clear hr hr1
          go_wp2
          go_roundw
          case rel => exact ⟨k + 1, by omega, by go_num, by rw [H1.out], by first | rfl | trivial⟩
          case measure => simp [intOf]; omega
        · rw [hr]
          have g1 : decide (1 ≤ ((l[k]'hlt).toNat : Int)) = false := decide_eq_false (by omega)
          have H1 := Lib.hid hr1
          clear hr hr1
          go_wp2
          go_roundw
          case rel => exact ⟨k + 1, by omega, by go_num, by rw [H1.out], by first | rfl | trivial⟩
          case measure => simp [intOf]; omega
        · rw [hr]
          have g1 : decide (1 ≤ ((l[k]'hlt).toNat : Int)) = true := decide_eq_true (by omega)
          have g2 : decide (((l[k]'hlt).toNat : Int) ≤ 127) = false := decide_eq_false (by omega)
          have H1 := Lib.hid hr1
          clear hr hr1
          go_wp2
          go_roundw
          case rel => exact ⟨k + 1, by omega, by go_num, by rw [H1.out], by first | rfl | trivial⟩
          case measure => simp [intOf]; omega
        · rw [hr]
          have g1 : decide (1 ≤ ((l[k]'hlt).toNat : Int)) = true := decide_eq_true (by omega)
          have g2 : decide (((l[k]'hlt).toNat : Int) ≤ 127) = true := decide_eq_true (by omega)
          have H1 := Lib.hid hr1
          clear hr hr1
          go_wp2
          go_roundw
          case rel => exact ⟨k + 1, by omega, by go_num, by rw [H1.out], by first | rfl | trivial⟩
          case measure => simp [intOf]; omega
      · obtain rfl : l.size = k := by omega
        have hlast := HLAST.out
        rw [hlast]
        clear hlast HLAST HS E0
        go_wp2_with fail
        refine (WK.out _ (hT.below' hbw2)).mono ?_
        intro e w9 hw9
        obtain ⟨rfl, hb9⟩ := hw9
        have hbw9 := hbw2.trans (hb9.mono hs2)
        clear hb9
        go_wp2
        go_ret
        exact ⟨rfl, hbw9⟩
theorem sizes_row (o : Opt) (w : World) (hI : IsOpt w o) (hT : Sizes w) :
    Calls Tryd.prog 7 #[opV o] w fun e w' => e = .returned (.bool true) ∧ Below w.heap.size w w' := by
  obtain ⟨a, l, P, pn, pc, pb, D, dn, dc, db⟩ := o
  obtain ⟨ha, hl, hp, hd⟩ := hI
  unfold opV Opt.cells
  simp only at *
  have hl9 := hl
  have hp1 := hp.le
  have hp2 := hp.max
  have hd1 := hd.le
  have hd2 := hd.max
  unfold maxLen at hl9 hp2 hd2
  have WK := Lib.hid (fun W (h : Sizes W) => works_any W h)
  by_cases hbig : 16384 < l.size ∨ 65536 < dn
  · have LG := Lib.hid (fun W => large_yes a l P pn pc D dn dc W hbig (by omega) (by omega))
    clear hbig
    go_enter Tryd.func7, Tryd.ntmps7
    go_wp2_with fail
    refine calls_named fun w0 hw0 => ?_
    have hbw0 : Below w.heap.size w w0 := below_named hw0 ((Below.refl _ _).alloc (Nat.le_refl _) _)
    have k0 := heap_named hw0 (heap_alloc_new w _)
    have hs0 := hbw0.size
    clear hw0
    refine (LG.out w0).mono ?_
    intro e w1 hw1
    obtain ⟨rfl, hb1⟩ := hw1
    have hbw1 := hbw0.trans (hb1.mono hs0)
    have hs1 := hbw1.size
    have k1 := (hb1.block _ (heap_lt k0)).trans k0
    clear hb1 k0 hbw0 hs0
    obtain ⟨a0, a1, a2, a3⟩ := cells4 k1
    go_wp2_with fail
    refine (WK.out _ (hT.below' hbw1)).mono ?_
    intro e w9 hw9
    obtain ⟨rfl, hb9⟩ := hw9
    have hbw9 := hbw1.trans (hb9.mono hs1)
    clear hb9
    go_wp2
    go_ret
    exact ⟨rfl, hbw9⟩
  · by_cases h3 : pn ≤ 131072
    · exact sizes_walk a l P pn pc pb D dn dc db w ha hp.rb hd.rb hT (by omega) (by omega) h3 _ rfl
    · have LG := Lib.hid (fun W => large_no a l P pn pc D dn dc W (by omega) (by omega))
      have d3 : decide (131072 < (pn : Int)) = true := decide_eq_true (by omega)
      go_enter Tryd.func7, Tryd.ntmps7
      go_wp2_with fail
      refine calls_named fun w0 hw0 => ?_
      have hbw0 : Below w.heap.size w w0 := below_named hw0 ((Below.refl _ _).alloc (Nat.le_refl _) _)
      have k0 := heap_named hw0 (heap_alloc_new w _)
      have hs0 := hbw0.size
      clear hw0
      refine (LG.out w0).mono ?_
      intro e w1 hw1
      obtain ⟨rfl, hb1⟩ := hw1
      have hbw1 := hbw0.trans (hb1.mono hs0)
      have hs1 := hbw1.size
      have k1 := (hb1.block _ (heap_lt k0)).trans k0
      clear hb1 k0 hbw0 hs0
      obtain ⟨a0, a1, a2, a3⟩ := cells4 k1
      go_wp2_with fail
      refine (WK.out _ (hT.below' hbw1)).mono ?_
      intro e w9 hw9
      obtain ⟨rfl, hb9⟩ := hw9
      have hbw9 := hbw1.trans (hb9.mono hs1)
      clear hb9
      go_wp2
      go_ret
      exact ⟨rfl, hbw9⟩
end Go.Proofs.YtokklcfdfjgbjaaDoor
