/-
  option: writing of labels up to two million letters; options whose bytes are turned; the statement's argument.
-/
import Derived.Test.YtokklcfdfjgbjaaDoorOpL
import Derived.Test.YtokklcfdfjgbjaaDoorOpK
import Derived.Test.YtokklcfdfjgbjaaDoorRows
namespace Go.Proofs.YtokklcfdfjgbjaaDoor
open Go.RowKit Go
set_option linter.unusedVariables false
set_option maxRecDepth 100000
set_option maxHeartbeats 1600000 in
theorem write_yes2 (a : Nat) (l : ByteArray) (P : Option Addr) (pn pc : Nat) (pb : List UInt8) (D : Option Addr) (dn dc : Nat) (db : List UInt8) (w : World) (hT : Sizes w)
    (ha : a < 4294967296) (hl : l.size ≤ 2000000) (hP : RB w P pn pb) (hD : RB w D dn db) (hpn : pn ≤ 65535) (hdn : dn ≤ 1000000000) (hall : l.data.toList.all letter = true) :
    Calls Tryd.prog 12 #[.agg #[.int .u32 (a : Int), .string l, .slice P pn pc, .slice D dn dc]] w (FreshE w (optB a l.data.toList pb db)) := by
  have WD := Lib.hid (fun W => wide_any l W (by omega))
  rw [wide_yes hall] at WD
  have hwl : (widen l.data.toList).length = 2 * l.size := by rw [widen_len, data_len]
  have HW := Lib.hid hwl
  have P1 := Lib.hid (fun W h => put_ok none 0 0 [] a 4 W (RB.nil _ _) h (by omega) rfl (by omega))
  have P2 := Lib.hid (fun A n c bs W hR hs (hn : n ≤ 1000000000) => put_ok A n c bs pn 2 W hR hs hn rfl (by omega))
  have hB : optB a l.data.toList pb db = ([] ++ leB a 4 ++ leB pn 2 ++ widen l.data.toList ++ [0, 0] ++ pb) ++ db := by unfold optB; rw [hP.1]; rfl
  rw [hB]
  have h4 := leB_len a 4
  have h2 := leB_len pn 2
  clear hB hwl hall
  generalize widen l.data.toList = wl at WD HW ⊢
  generalize leB a 4 = la at P1 h4 ⊢
  generalize leB pn 2 = lp at P2 h2 ⊢
  have H4 := Lib.hid h4
  have H2 := Lib.hid h2
  have HPL := Lib.hid hP.1
  have HDL := Lib.hid hD.1
  clear h4 h2
  go_enter Tryd.func12, Tryd.ntmps12
  go_wp2_with fail
  refine calls_named fun w0 hw0 => ?_
  have hbw0 : Below w.heap.size w w0 := below_named hw0 ((Below.refl _ _).alloc (Nat.le_refl _) _)
  have k0 := heap_named hw0 (heap_alloc_new w _)
  have hs0 := hbw0.size
  clear hw0
  refine (WD.out w0).mono ?_
  rintro e w1 ⟨A1, n1, c1, rfl, hown1, hb1⟩
  obtain rfl : 2 * l.size = n1 := HW.out.symm.trans hown1.len
  have hbw1 := hbw0.trans (hb1.mono hs0)
  have hs1 := hbw1.size
  have k1 := (hb1.block _ (heap_lt k0)).trans k0
  obtain ⟨a0, a1, a2, a3⟩ := cells4 k1
  clear hb1 k0 hbw0
  go_wp2_with fail
  refine (P1.out _ (hT.below' hbw1)).mono ?_
  rintro e w2 ⟨A2, n2, c2, rfl, hown2, hb2⟩
  obtain rfl : 4 = n2 := by have := hown2.len; rw [List.nil_append, H4.out] at this; exact this
  have hbw2 := hbw1.trans (hb2.mono hs1)
  have hs2 := hbw2.size
  have k2 := (hb2.block _ (heap_lt k1)).trans k1
  have hown12 := hown1.below hb2 (Nat.le_refl _)
  have hlt2 := heap_lt k2
  clear hb2 k1 hbw1 a0 a1 a2 a3 hown1
  obtain ⟨a0, a1, a2, a3⟩ := cells4 k2
  go_wp2_with fail
  refine (P2.out _ _ _ _ _ hown2.rb (hT.below' hbw2) (by omega)).mono ?_
  rintro e w3 ⟨A3, n3, c3, rfl, hown3, hb3⟩
  obtain rfl : 6 = n3 := by have := hown3.len; rw [List.length_append, List.nil_append, H4.out, H2.out] at this; exact this
  have hbw3 := hbw2.trans (hb3.mono hs2)
  have hs3 := hbw3.size
  have k3 := (hb3.block _ (heap_lt k2)).trans k2
  have hown13 := hown12.below hb3 (Nat.le_refl _)
  have hz3 := hb3.size
  clear hb3 k2 hbw2 a0 a1 a2 a3 hown12 hown2
  obtain ⟨a0, a1, a2, a3⟩ := cells4 k3
  go_wp2_with (at_builtin; refine wpList_apn _ _ rfl rfl rfl w2.heap.size A3 6 c3 _ rfl hown3 A1 (2 * l.size) c1 _ rfl hown13.rb (by omega) (by omega) ?_)
  intro A4 c4 w4 hown4 hg4
  have hbw4 := hbw3.grown hg4 hs3 (fun g hg => by have := (hown3.blk_lt hg).1; omega)
  have hz4 := hg4.size
  have k4 := (hg4.block w.heap.size (heap_lt k3) (fun e => by have := (hown3.blk_lt e.symm).1; omega)).trans k3
  clear k3 hbw3 hown13 hown3 hg4 a0 a1 a2 a3
  go_wp2_with (at_builtin; refine wpList_app _ _ rfl rfl rfl w2.heap.size A4 (6 + 2 * l.size) c4 _ rfl (hown4.alloc _) (w4.heap.size + 1) (some ⟨w4.heap.size, 0, none⟩) 2 [0, 0] rfl (bs_new _ _ _ _ _ rfl) (by have := hown4.len; rw [this]; simp; omega) (by simp; omega) ?_)
  intro A5 c5 w5 hown5 hg5
  have hs4 : w.heap.size ≤ w4.heap.size := hbw4.size
  have hbw5 := (hbw4.alloc hs4 _).grown hg5 (by simp; omega) (fun g hg => by have := (hown4.blk_lt hg).1; omega)
  have k5 := (hg5.block w.heap.size (by have := heap_lt k4; simp; omega) (fun e => by have := (hown4.blk_lt e.symm).1; omega)).trans ((heap_alloc_old w4 _ (heap_lt k4)).trans k4)
  have hz5 := hg5.size
  have hz5' : w4.heap.size ≤ w5.heap.size := by simp at hz5; omega
  clear hg5 k4 hbw4 hown4 hz5
  obtain ⟨a0, a1, a2, a3⟩ := cells4 k5
  have hP5 : RB w5 P pn pb := hP.below hbw5
  go_wp2_with (at_builtin; refine wpList_apn _ _ rfl rfl rfl w2.heap.size A5 _ c5 _ rfl hown5 P pn pc _ rfl hP5 (by omega) (by omega) ?_)
  intro A6 c6 w6 hown6 hg6
  have hs5 : w.heap.size ≤ w5.heap.size := hbw5.size
  have hbw6 := hbw5.grown hg6 hs5 (fun g hg => by have := (hown5.blk_lt hg).1; omega)
  have k6 := (hg6.block w.heap.size (heap_lt k5) (fun e => by have := (hown5.blk_lt e.symm).1; omega)).trans k5
  have hz6 := hg6.size
  clear hg6 k5 hbw5 hown5 hP5 a0 a1 a2 a3
  obtain ⟨a0, a1, a2, a3⟩ := cells4 k6
  have hD6 : RB w6 D dn db := hD.below hbw6
  go_wp2_with (at_builtin; refine wpList_apn _ _ rfl rfl rfl w2.heap.size A6 _ c6 _ rfl hown6 D dn dc _ rfl hD6 (by omega) (by omega) ?_)
  intro A7 c7 w7 hown7 hg7
  have hs6 : w.heap.size ≤ w6.heap.size := hbw6.size
  have hbw7 := hbw6.grown hg7 hs6 (fun g hg => by have := (hown6.blk_lt hg).1; omega)
  clear hg7 k6 hbw6 hown6 hD6 a0 a1 a2 a3
  go_wp2
  go_ret2
  exact ⟨_, _, _, rfl, by simpa using hown7.lower hs2, hbw7⟩
theorem write_no2 (a : Nat) (l : ByteArray) (P : Option Addr) (pn pc : Nat) (D : Option Addr) (dn dc : Nat) (w : World)
    (hl : l.size ≤ 2000000) (hpn : pn ≤ 9223372036854775807) (hno : l.data.toList.all letter = false ∨ 65535 < pn) :
    Calls Tryd.prog 12 #[.agg #[.int .u32 (a : Int), .string l, .slice P pn pc, .slice D dn dc]] w fun e w' => e = .returned (.tuple #[.slice none 0 0, .int .i64 1]) ∧ Below w.heap.size w w' := by
  have WD := Lib.hid (fun W => wide_any l W (by omega))
  have hb0 : ∀ o, Below w.heap.size w (w.alloc o) := fun o => (Below.refl _ _).alloc (Nat.le_refl _) _
  cases hall : l.data.toList.all letter with
  | false =>
    rw [wide_no hall] at WD
    have hp := pos_of_not hall
    rw [data_len] at hp
    have d1 : ((0 : Int) == 2 * (l.size : Int)) = false := beq_eq_false_iff_ne.2 (by omega)
    have d2 : ((0 : Int) != 2 * (l.size : Int)) = true := by rw [bne_iff_ne]; omega
    clear hall hno
    go_enter Tryd.func12, Tryd.ntmps12
    go_wp2_with fail
    refine calls_named fun w0 hw0 => ?_
    have hbw0 : Below w.heap.size w w0 := below_named hw0 (hb0 _)
    have k0 := heap_named hw0 (heap_alloc_new w _)
    have hs0 := hbw0.size
    clear hw0
    refine (WD.out w0).mono ?_
    rintro e w1 ⟨A1, n1, c1, rfl, hown1, hb1⟩
    obtain rfl : 0 = n1 := hown1.len
    have hbw1 := hbw0.trans (hb1.mono hs0)
    have k1 := (hb1.block _ (heap_lt k0)).trans k0
    obtain ⟨a0, a1, a2, a3⟩ := cells4 k1
    clear hb1 k0 hbw0 k1
    go_wp2
    go_ret2
    exact ⟨rfl, hbw1⟩
  | true =>
    rw [wide_yes hall] at WD
    have hwl : (widen l.data.toList).length = 2 * l.size := by rw [widen_len, data_len]
    have HW := Lib.hid hwl
    have hp : 65535 < pn := by
      rcases hno with h | h
      · rw [h] at hall; cases hall
      · exact h
    have d1 : ((2 * (l.size : Int)) == 2 * (l.size : Int)) = true := by simp
    have d2 : ((2 * (l.size : Int)) != 2 * (l.size : Int)) = false := by simp
    have d3 : decide (65535 < (pn : Int)) = true := decide_eq_true (by omega)
    clear hall hno hwl
    generalize widen l.data.toList = wl at WD HW
    go_enter Tryd.func12, Tryd.ntmps12
    go_wp2_with fail
    refine calls_named fun w0 hw0 => ?_
    have hbw0 : Below w.heap.size w w0 := below_named hw0 (hb0 _)
    have k0 := heap_named hw0 (heap_alloc_new w _)
    have hs0 := hbw0.size
    clear hw0
    refine (WD.out w0).mono ?_
    rintro e w1 ⟨A1, n1, c1, rfl, hown1, hb1⟩
    obtain rfl : 2 * l.size = n1 := HW.out.symm.trans hown1.len
    have hbw1 := hbw0.trans (hb1.mono hs0)
    have k1 := (hb1.block _ (heap_lt k0)).trans k0
    obtain ⟨a0, a1, a2, a3⟩ := cells4 k1
    clear hb1 k0 hbw0 k1
    go_wp2
    go_ret2
    exact ⟨rfl, hbw1⟩
theorem readQ_gen (a m : Nat) (l r : List UInt8) (ha : a < 4294967296) (hl : l.all letter = true) (hm : m < 65536) :
    readQ (leB a 4 ++ leB m 2 ++ widen l ++ 0 :: 0 :: r) = if m ≤ r.length then some (a, l, r.take m, r.drop m) else none := by
  have e : leB a 4 ++ leB m 2 ++ widen l ++ 0 :: 0 :: r = nb a 0 :: nb a 1 :: nb a 2 :: nb a 3 :: nb m 0 :: nb m 1 :: (widen l ++ 0 :: 0 :: r) := by
    have e4 : leB a 4 = [nb a 0, nb a 1, nb a 2, nb a 3] := rfl
    have e2 : leB m 2 = [nb m 0, nb m 1] := rfl
    rw [e4, e2]
    simp
  rw [e]
  have hlen : (nb a 0 :: nb a 1 :: nb a 2 :: nb a 3 :: nb m 0 :: nb m 1 :: (widen l ++ 0 :: 0 :: r)).length = 8 + 2 * l.length + r.length := by
    simp [widen_len]
    omega
  have hd6 : (nb a 0 :: nb a 1 :: nb a 2 :: nb a 3 :: nb m 0 :: nb m 1 :: (widen l ++ 0 :: 0 :: r)).drop 6 = widen l ++ 0 :: 0 :: r := rfl
  have h4 : cut (nb a 0 :: nb a 1 :: nb a 2 :: nb a 3 :: nb m 0 :: nb m 1 :: (widen l ++ 0 :: 0 :: r)) 0 4 = leB a 4 := rfl
  have h2 : cut (nb a 0 :: nb a 1 :: nb a 2 :: nb a 3 :: nb m 0 :: nb m 1 :: (widen l ++ 0 :: 0 :: r)) 4 2 = leB m 2 := rfl
  generalize nb a 0 :: nb a 1 :: nb a 2 :: nb a 3 :: nb m 0 :: nb m 1 :: (widen l ++ 0 :: 0 :: r) = z at *
  have hdk : z.drop (6 + (widen l).length + 2) = r := by
    rw [show 6 + (widen l).length + 2 = 6 + ((widen l).length + 2) by omega, ← List.drop_drop, hd6, ← List.drop_drop, List.drop_left]
    rfl
  unfold readQ
  rw [if_neg (by omega), hd6, scan_widen l r hl]
  simp only
  rw [narrow_widen l hl]
  simp only
  rw [h4, h2, leN_leB4 a ha, leN_leB2 m hm]
  have hdd : z.drop (6 + (widen l).length + 2 + m) = r.drop m := by rw [← List.drop_drop, hdk]
  have hcc : cut z (6 + (widen l).length + 2) m = r.take m := by unfold cut; rw [hdk]
  rw [hdd, hcc, hlen, widen_len]
  by_cases h : m ≤ r.length
  · rw [if_pos h, if_pos (by omega)]
  · rw [if_neg h, if_neg (by omega)]
theorem optB_told (a : Nat) (l pb db : List UInt8) (m : Nat) : ((optB a l pb db).set 4 (nb m 0)).set 5 (nb m 1) = leB a 4 ++ leB m 2 ++ widen l ++ 0 :: 0 :: (pb ++ db) := by
  rw [optB_eq]
  have e4 : leB a 4 = [nb a 0, nb a 1, nb a 2, nb a 3] := rfl
  have e2 : leB m 2 = [nb m 0, nb m 1] := rfl
  rw [e4, e2]
  simp
theorem scan_turned : ∀ (l r : List UInt8) (j : Nat) (x : UInt8), l.all letter = true → j < 2 * l.length → (j % 2 = 1 ∧ x.toNat ≠ 0) ∨ (j % 2 = 0 ∧ 127 < x.toNat) →
    ∃ wl, scan ((widen l ++ 0 :: 0 :: r).set j x) = some wl ∧ narrowS wl = none
  | [], r, j, x, _, hj, _ => by simp at hj
  | p :: l, r, 0, x, h, _, hc => by
    have hl : l.all letter = true := by simp at h; simpa using h.2
    have hx : 127 < x.toNat := by rcases hc with h | h <;> omega
    refine ⟨x :: 0 :: widen l, ?_, ?_⟩
    · show scan (x :: 0 :: (widen l ++ 0 :: 0 :: r)) = _
      conv => lhs; unfold scan
      rw [if_neg (by omega), scan_widen l r hl]
      rfl
    · rw [narrow_cons]
      have : letter x = false := by unfold letter; exact decide_eq_false (by omega)
      rw [this]
      rfl
  | p :: l, r, 1, x, h, _, hc => by
    have hp : letter p = true := by simp at h; exact h.1
    have hl : l.all letter = true := by simp at h; simpa using h.2
    have h1 : 1 ≤ p.toNat := by unfold letter at hp; have := of_decide_eq_true hp; exact this.1
    have hx : x.toNat ≠ 0 := by rcases hc with h | h <;> omega
    refine ⟨p :: x :: widen l, ?_, ?_⟩
    · show scan (p :: x :: (widen l ++ 0 :: 0 :: r)) = _
      conv => lhs; unfold scan
      rw [if_neg (by omega), scan_widen l r hl]
      rfl
    · rw [narrow_cons]
      have : (x == 0) = false := beq_eq_false_iff_ne.2 (fun e => hx (by rw [e]; rfl))
      rw [this]
      simp
  | p :: l, r, j + 2, x, h, hj, hc => by
    have hp : letter p = true := by simp at h; exact h.1
    have hl : l.all letter = true := by simp at h; simpa using h.2
    have h1 : 1 ≤ p.toNat := by unfold letter at hp; have := of_decide_eq_true hp; exact this.1
    obtain ⟨wl, w1, w2⟩ := scan_turned l r j x hl (by simp at hj; omega) (by rcases hc with ⟨h, h9⟩ | ⟨h, h9⟩ <;> first | exact .inl ⟨by omega, h9⟩ | exact .inr ⟨by omega, h9⟩)
    refine ⟨p :: 0 :: wl, ?_, ?_⟩
    · show scan (p :: 0 :: ((widen l ++ 0 :: 0 :: r).set j x)) = _
      conv => lhs; unfold scan
      rw [if_neg (by omega), w1]
      rfl
    · rw [narrow_cons, hp, w2]
      rfl
theorem readQ_turned (a : Nat) (l pb db : List UInt8) (j : Nat) (x : UInt8) (hl : l.all letter = true) (hj : j < 2 * l.length) (hc : (j % 2 = 1 ∧ x.toNat ≠ 0) ∨ (j % 2 = 0 ∧ 127 < x.toNat)) :
    readQ ((optB a l pb db).set (6 + j) x) = none := by
  obtain ⟨wl, w1, w2⟩ := scan_turned l (pb ++ db) j x hl hj hc
  have hd : ((optB a l pb db).set (6 + j) x).drop 6 = (widen l ++ 0 :: 0 :: (pb ++ db)).set j x := by
    rw [optB_eq, Nat.add_comm 6 j]
    rfl
  unfold readQ
  rw [hd, w1]
  simp only
  rw [w2]
  simp
/-- What turns an option: a place, a byte, and how long its path is told to be. -/
structure Turn where
  o : Opt
  at_ : Nat
  x : UInt8
  s : Nat
def turnV (t : Turn) : Value := .agg #[.int .u32 (t.o.a : Int), .string t.o.l, .slice t.o.P t.o.pn t.o.pc, .slice t.o.D t.o.dn t.o.dc, .int .u16 (t.at_ : Int), .int .u8 (t.x.toNat : Int), .int .u16 (t.s : Int)]
structure IsTurn (w : World) (t : Turn) : Prop where
  o : IsOpt w t.o
  at_ : t.at_ < 65536
  s : t.s < 65536
section
open Go.ChangeShapes Go.WideShapes Go.ChangeAt Go.Joins
theorem bulk_all {H : Type} {d : DataW H} : ∀ {l : List (DataW H)}, d ∈ l → Rows.uptoBulk d ≤ Rows.uptoBulkAll l
  | [], h => by cases h
  | x :: r, h => by
    simp only [Rows.uptoBulkAll]
    rcases List.mem_cons.1 h with e | e
    · subst e; omega
    · have := bulk_all e; omega
theorem bulk_len {H : Type} : ∀ l : List (DataW H), l.length ≤ Rows.uptoBulkAll l
  | [] => by simp [Rows.uptoBulkAll]
  | x :: r => by
    have h1 : 1 ≤ Rows.uptoBulk x := by
      cases x with
      | lit l => cases l <;> simp [Rows.uptoBulk]
      | nil => simp [Rows.uptoBulk]
      | ptr d => simp [Rows.uptoBulk]
      | slice elems spare => simp [Rows.uptoBulk]
      | agg parts => simp [Rows.uptoBulk]
      | iface t d => simp [Rows.uptoBulk]
      | map entries => simp [Rows.uptoBulk]
      | held h => simp [Rows.uptoBulk]
    have h2 := bulk_len r
    simp only [Rows.uptoBulkAll, List.length_cons]
    omega
theorem bulk_bs {H : Type} {enc : TypeId × Value → H} {W : World} {base n : Nat} {sp : Nat → Bool} {A : Option Addr} {m k : Nat} {x : DataW H × List MemPlace} (h : DataW.trod enc Tryd.prog W base sp true n 23 [Value.slice A m k] = some x) : m ≤ Rows.uptoBulk x.1 := by
  rcases DataW.trod_slice Tryd.underlying23 h with ⟨e, _⟩ | ⟨a, l, k', el, re, _, _, e, hx, _, _, _, hl, _⟩
  · injection e with e _
    injection e with _ e _
    omega
  · injection e with e _
    injection e with _ e _
    have h1 := bulk_len (el.map (·.1))
    rw [hx]
    simp only [Rows.uptoBulk]
    simp at h1
    omega
theorem open_turn {H : Type} {enc : TypeId × Value → H} {W : World} {r : Reach} {b0 : Nat} {v : Value} {d : DataW H} {p : List MemPlace} (hv : Value.okWide Tryd.prog W r b0 44 v)
    (h : DataW.Trod enc Tryd.prog W 0 (fun _ => true) true 44 v d p) : ∃ x, v = turnV x ∧ IsTurn W x ∧ x.o.l.size ≤ Rows.uptoBulk d ∧ x.o.pn ≤ Rows.uptoBulk d ∧ x.o.dn ≤ Rows.uptoBulk d := by
  obtain ⟨cs, rfl, hsz⟩ := okWide_struct Tryd.underlying44 hv
  have hsz7 : cs.size = 7 := hsz.trans (by kernel_rfl)
  obtain ⟨l⟩ := cs
  obtain ⟨fuel, hf⟩ := h
  obtain ⟨xs, n, _, hd, _, hlen, hg⟩ := DataW.trod_struct Tryd.underlying44 hf
  match l, hsz7 with
  | [c0, c1, c2, c3, c4, c5, c6], _ =>
    match xs, hlen with
    | [x0, x1, x2, x3], _ =>
      have cO : Tryd.prog.cellsOf 25 = 4 := by kernel_rfl
      have cu : Tryd.prog.cellsOf 42 = 1 := by kernel_rfl
      have c8 : Tryd.prog.cellsOf 5 = 1 := by kernel_rfl
      have g0 : DataW.trod enc Tryd.prog W 0 (fun _ => true) true n 25 [c0, c1, c2, c3] = some x0 := by simpa [Value.cells, cO] using hg 0 _ rfl
      have g1 : DataW.trod enc Tryd.prog W 0 (fun _ => true) true n 42 [c4] = some x1 := by simpa [Value.cells, cu] using hg 1 _ rfl
      have g2 : DataW.trod enc Tryd.prog W 0 (fun _ => true) true n 5 [c5] = some x2 := by simpa [Value.cells, c8] using hg 2 _ rfl
      have g3 : DataW.trod enc Tryd.prog W 0 (fun _ => true) true n 42 [c6] = some x3 := by simpa [Value.cells, cu] using hg 3 _ rfl
      obtain ⟨z1, e1, _, w1⟩ := DataW.trod_int Tryd.underlying42 g1
      injection e1 with e1 _
      subst e1
      obtain ⟨z2, e2, _, w2⟩ := DataW.trod_int Tryd.underlying5 g2
      injection e2 with e2 _
      subst e2
      obtain ⟨z3, e3, _, w3⟩ := DataW.trod_int Tryd.underlying42 g3
      injection e3 with e3 _
      subst e3
      obtain ⟨ys, m, _, hy, _, hly, hgy⟩ := DataW.trod_struct Tryd.underlying25 g0
      match ys, hly with
      | [y0, y1, y2, y3], _ =>
        have du : Tryd.prog.cellsOf 22 = 1 := by kernel_rfl
        have ds : Tryd.prog.cellsOf 9 = 1 := by kernel_rfl
        have db : Tryd.prog.cellsOf 23 = 1 := by kernel_rfl
        have f0 : DataW.trod enc Tryd.prog W 0 (fun _ => true) true m 22 [c0] = some y0 := by simpa [du] using hgy 0 _ rfl
        have f1 : DataW.trod enc Tryd.prog W 0 (fun _ => true) true m 9 [c1] = some y1 := by simpa [ds] using hgy 1 _ rfl
        have f2 : DataW.trod enc Tryd.prog W 0 (fun _ => true) true m 23 [c2] = some y2 := by simpa [db] using hgy 2 _ rfl
        have f3 : DataW.trod enc Tryd.prog W 0 (fun _ => true) true m 23 [c3] = some y3 := by simpa [db] using hgy 3 _ rfl
        obtain ⟨z0, e0, _, w0⟩ := DataW.trod_int Tryd.underlying22 f0
        injection e0 with e0 _
        subst e0
        obtain ⟨sv, e4, hs4, w4⟩ := DataW.trod_string Tryd.underlying9 f1
        injection e4 with e4 _
        subst e4
        obtain ⟨A2, n2, k2, rfl⟩ : ∃ A n k, c2 = Value.slice A n k := slice_of f2
        obtain ⟨A3, n3, k3, rfl⟩ : ∃ A n k, c3 = Value.slice A n k := slice_of f3
        have q2 := bulk_bs f2
        have q3 := bulk_bs f3
        obtain ⟨b2, B2⟩ := open_bs Tryd.underlying23 Tryd.underlying5 (by kernel_rfl) (show DataW.trod enc Tryd.prog W 0 (fun _ => true) true m 23 (Value.slice A2 n2 k2).cells.toList = some (y2.1, y2.2) by simpa [Value.cells] using f2)
        obtain ⟨b3, B3⟩ := open_bs Tryd.underlying23 Tryd.underlying5 (by kernel_rfl) (show DataW.trod enc Tryd.prog W 0 (fun _ => true) true m 23 (Value.slice A3 n3 k3).cells.toList = some (y3.1, y3.2) by simpa [Value.cells] using f3)
        have bd := bounds_u32 w0
        have b1 := bounds_u16 w1
        have b3' := bounds_u16 w3
        have y0' : ((z0.toNat : Nat) : Int) = z0 := by omega
        have y1' : ((z1.toNat : Nat) : Int) = z1 := by omega
        have y3' : ((z3.toNat : Nat) : Int) = z3 := by omega
        have hD : d = .agg [x0.1, x1.1, x2.1, x3.1] := by
          have := congrArg Prod.fst hd
          simpa using this
        have hX : x0.1 = .agg [y0.1, y1.1, y2.1, y3.1] := by
          have := congrArg Prod.fst hy
          simpa using this
        have hbig : ∀ z ∈ [y0.1, y1.1, y2.1, y3.1], Rows.uptoBulk z ≤ Rows.uptoBulk d := fun z hz => by
          have h1 := bulk_all hz
          rw [hD, hX]
          simp only [Rows.uptoBulk, Rows.uptoBulkAll] at h1 ⊢
          omega
        have hs1 : y1.1 = .lit (.string sv.data.toList) := by
          have := congrArg Prod.fst hs4
          simpa using this
        refine ⟨⟨⟨z0.toNat, sv, A2, n2, k2, b2, A3, n3, k3, b3⟩, z1.toNat, UInt8.ofNat z2.toNat, z3.toNat⟩, ?_, ⟨⟨by show z0.toNat < 4294967296; omega, w4, B2, B3⟩, by show z1.toNat < 65536; omega, by show z3.toNat < 65536; omega⟩, ?_, ?_, ?_⟩
        · unfold turnV
          simp only [y0', y1', y3', byte_of_wf w2]
        · have h1 := hbig y1.1 (by simp)
          rw [hs1] at h1
          simp only [Rows.uptoBulk] at h1
          show sv.size ≤ _
          simp at h1
          omega
        · exact Nat.le_trans q2 (hbig y2.1 (by simp))
        · exact Nat.le_trans q3 (hbig y3.1 (by simp))
end
end Go.Proofs.YtokklcfdfjgbjaaDoor
