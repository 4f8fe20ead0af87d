/-
  stamp: the statement on texts that are cut, longer, or turned.
-/
import Derived.Test.YtepakdgpaaeelaaDoorStL6
import Derived.Test.YtepakdgpaaeelaaDoorApp1
namespace Go.Proofs.YtepakdgpaaeelaaDoor
open Go.RowKit Go
set_option linter.unusedVariables false
set_option maxRecDepth 100000
theorem mod15 (z : Int) : ∃ k : Nat, k < 15 ∧ ((z.tmod 15 = (k : Int)) ∨ (z.tmod 15 = (k : Int) - 15 ∧ 0 < k)) := by
  have h1 := Int.tmod_lt_of_pos z (show (0 : Int) < 15 by omega)
  have h2 := Int.lt_tmod_of_pos z (show (0 : Int) < 15 by omega)
  by_cases h : z.tmod 15 < 0
  · exact ⟨(z.tmod 15 + 15).toNat, by omega, .inr ⟨by omega, by omega⟩⟩
  · exact ⟨(z.tmod 15).toNat, by omega, .inl (by omega)⟩
theorem opt_zero (w : World) (bs : List UInt8) (h : bs.length ≠ 15) : optV (genO bs) = .tuple #[.agg #[.int .u16 0, .int .u8 0, .int .u8 0, .int .u8 0, .int .u8 0, .int .u8 0], .bool false] := by rw [gen_len h]; rfl
theorem opt_zero2 (w : World) (bs : List UInt8) (h : bs.length ≠ 13) : optV (utcO bs) = .tuple #[.agg #[.int .u16 0, .int .u8 0, .int .u8 0, .int .u8 0, .int .u8 0, .int .u8 0], .bool false] := by rw [utc_len h]; rfl
def digQ (k : Nat) (x : UInt8) : Bool := if k = 14 then x == 90 else digit x
theorem cut_quiet (t : Tm) (k : Nat) (x : UInt8) (hk : k < 15) (h : digQ k x = false) : genO ((textB t).set k x) = none := by
  unfold digQ at h
  by_cases e : k = 14
  · subst e
    rw [if_pos rfl] at h
    exact gen_noZ t x (by simpa using h)
  · rw [if_neg e] at h
    exact gen_turned t k x (by omega) h
set_option maxHeartbeats 3200000 in
theorem cuts_pos (t : Tm) (at_ : Int) (x : UInt8) (w : World) (ht : IsTm w t) (h64 : -9223372036854775808 ≤ at_ ∧ at_ ≤ 9223372036854775807) (hT : Sizes w) (hr : rightB t = true) (k : Nat) (hk : k < 15) (hm : at_.tmod 15 = (k : Int)) :
    Calls Tryd.prog 10 #[tmV t, .int .i64 at_, .int .u8 (x.toNat : Int)] w fun e w' => e = .returned (.bool true) ∧ Below w.heap.size w w' := by
  have hy : t.y < 65536 := ht
  obtain ⟨a1, a2⟩ := h64
  have WK := Lib.hid (fun W (h : Sizes W) => works_any W h)
  have RT := Lib.hid (fun W => right_any t W hy)
  rw [hr] at RT
  have XT := Lib.hid (fun W => text_any t W hr)
  have hq := cut_quiet t k x hk
  have HL := Lib.hid (text_len t)
  have hlt : ((textB t).take k).length = k := by rw [List.length_take, HL.out]; omega
  have HLT := Lib.hid hlt
  have hls : ((textB t).set k x).length = 15 := by rw [List.length_set]; exact HL.out
  have G1 : Hid (∀ A c W, RB W A k ((textB t).take k) → Calls Tryd.prog 17 #[.slice A k c] W fun e w' => e = .returned (.tuple #[.agg #[.int .u16 0, .int .u8 0, .int .u8 0, .int .u8 0, .int .u8 0, .int .u8 0], .bool false]) ∧ Below W.heap.size W w') := fun A c W h => by
    have := gen_any A k c _ W h (by omega)
    rwa [opt_zero W _ (by rw [hlt]; omega)] at this
  have G2 : Hid (∀ A c W, RB W A 16 (textB t ++ [x]) → Calls Tryd.prog 17 #[.slice A 16 c] W fun e w' => e = .returned (.tuple #[.agg #[.int .u16 0, .int .u8 0, .int .u8 0, .int .u8 0, .int .u8 0, .int .u8 0], .bool false]) ∧ Below W.heap.size W w') := fun A c W h => by
    have := gen_any A 16 c _ W h (by omega)
    rwa [opt_zero W _ (by rw [h.1]; omega)] at this
  have U1 : Hid (∀ A c W, RB W A 15 (textB t) → Calls Tryd.prog 15 #[.slice A 15 c] W fun e w' => e = .returned (.tuple #[.agg #[.int .u16 0, .int .u8 0, .int .u8 0, .int .u8 0, .int .u8 0, .int .u8 0], .bool false]) ∧ Below W.heap.size W w') := fun A c W h => by
    have := utc_any A 15 c _ W h (by omega)
    rwa [opt_zero2 W _ (by rw [h.1]; omega)] at this
  have G3 : Hid (∀ A c W, RB W A 15 ((textB t).set k x) → Calls Tryd.prog 17 #[.slice A 15 c] W fun e w' => e = .returned (optV (genO ((textB t).set k x))) ∧ Below W.heap.size W w') := fun A c W h => gen_any A 15 c _ W h (by omega)
  clear hlt hls hr ht
  generalize genO ((textB t).set k x) = eo at G3 hq
  generalize textB t = tb at XT HL HLT G1 G2 U1 G3
  have HQ := Lib.hid hq
  have HM := Lib.hid hm
  clear hq
  have hxb := x.toNat_lt
  have k1 : (0 : Int) ≤ (k : Int) := by omega
  have k2 : (k : Int) < 15 := by omega
  unfold tmV Tm.cells at *
  obtain ⟨yt_, mot_, dt_, ht_, mit_, st_⟩ := t
  simp only at *
  go_enter Tryd.func10, Tryd.ntmps10
  go_wp2_with fail
  refine (RT.out _).mono ?_
  intro e w1 hw1
  obtain ⟨rfl, hb1⟩ := hw1
  have hbw1 : Below w.heap.size w w1 := ((Below.refl _ _).alloc (Nat.le_refl _) _).trans (hb1.mono (by simp))
  have hs1 := hbw1.size
  have k11 := (hb1.block w.heap.size (by simp)).trans (heap_alloc_new w _)
  clear hb1
  obtain ⟨ca0, ca1, ca2, ca3, ca4, ca5⟩ := cells6 k11
  go_wp2_with fail
  refine (XT.out _).mono ?_
  rintro e w2 ⟨A2, n2, c2, rfl, hown2, hb2⟩
  obtain rfl : 15 = n2 := HL.out.symm.trans hown2.len
  have hc2 := hown2.cap
  unfold maxLen at hc2
  obtain ⟨hc2a, hc2b⟩ := hc2
  have hbw2 := hbw1.trans (hb2.mono hs1)
  have hs2 := hbw2.size
  obtain ⟨g, rfl, hg1, hg2⟩ := hown2.shape (by omega)
  clear ca0 ca1 ca2 ca3 ca4 ca5 hb2 k11 hbw1
  have hkc : (k : Int) ≤ (c2 : Int) := by omega
  have hrt : RB w2 (some ⟨g, 0, none⟩) k (tb.take k) := ⟨HLT.out, hown2.reads.take_ k⟩
  go_wp2_with fail
  refine (G1.out _ _ _ hrt).mono ?_
  intro e w3 hw3
  obtain ⟨rfl, hb3⟩ := hw3
  have hbw3 := hbw2.trans (hb3.mono hs2)
  have hs3 := hbw3.size
  have hown3 := hown2.below hb3 (Nat.le_refl _)
  clear hb3 hbw2 hown2 hrt
  go_wp2_with fail
  refine calls_named fun w4 hw4 => ?_
  have hbw4 : Below w.heap.size w w4 := below_named hw4 (hbw3.alloc hs3 _)
  have hs4 := hbw4.size
  have hown4 : OwnB w4 w1.heap.size (some ⟨g, 0, none⟩) 15 c2 tb := hw4 ▸ hown3.alloc _
  clear hw4 hown3 hbw3
  refine (copy_any _ 15 c2 tb w4 hown4.rb (by omega)).mono ?_
  rintro e w5 ⟨A5, n5, c5, rfl, hown5, hb5⟩
  obtain rfl : 15 = n5 := HL.out.symm.trans hown5.len
  have hbw5 := hbw4.trans (hb5.mono hs4)
  have hs5 := hbw5.size
  have hown45 := hown4.below hb5 (Nat.le_refl _)
  have hown5' := hown5.lower hs4
  have hfar : blk A5 = none ∨ blk A5 ≠ some g := by
    rcases hA : blk A5 with _ | g5
    · exact .inl rfl
    · exact .inr (by have h7 := (hown5.blk_lt hA).1; have h8 := (hown4.blk_lt (k := g) rfl).2; intro e; injection e with e; omega)
  have HF := Lib.hid hfar
  clear hb5 hbw4 hown4 hown5 hfar
  go_wp2_with (at_builtin; refine wpList_app _ _ rfl rfl rfl w.heap.size A5 _ c5 tb rfl (hown5'.alloc _) (w5.heap.size + 1) (some ⟨w5.heap.size, 0, none⟩) 1 [x] rfl (bs_new _ _ _ _ _ rfl) (by rw [HL.out]; simp) (by simp; omega) ?_)
  intro A6 c6 w6 hown6 hg6
  have hbw6 : Below w.heap.size w w6 := (hbw5.alloc hs5 _).grown hg6 (by simp; omega) (fun q hq => (hown5'.blk_lt hq).1)
  have hs6 := hbw6.size
  have hown46 : OwnB w6 w1.heap.size (some ⟨g, 0, none⟩) 15 c2 tb := (hown45.alloc _).kept hg6 (by rcases HF.out with h | h; exact .inr (by rw [h]; exact fun e => by cases e); exact .inr (fun e => h e.symm))
  clear hg6 hown5' hown45 hbw5 HF
  go_wp2_with fail
  refine (G2.out _ _ _ hown6.rb).mono ?_
  intro e w7 hw7
  obtain ⟨rfl, hb7⟩ := hw7
  have hbw7 := hbw6.trans (hb7.mono hs6)
  have hs7 := hbw7.size
  have hown7 := hown46.below hb7 (Nat.le_refl _)
  clear hb7 hbw6 hown6 hown46
  go_wp2_with fail
  refine calls_named fun w8 hw8 => ?_
  have hbw8 : Below w.heap.size w w8 := below_named hw8 (hbw7.alloc hs7 _)
  have hs8 := hbw8.size
  have hown8 : OwnB w8 w1.heap.size (some ⟨g, 0, none⟩) 15 c2 tb := hw8 ▸ hown7.alloc _
  clear hw8 hown7 hbw7
  refine (U1.out _ _ _ hown8.rb).mono ?_
  intro e w9 hw9
  obtain ⟨rfl, hb9⟩ := hw9
  have hbw9 := hbw8.trans (hb9.mono hs8)
  have hs9 := hbw9.size
  have hown9 := hown8.below hb9 (Nat.le_refl _)
  clear hb9 hbw8 hown8
  obtain ⟨q, hq⟩ : ∃ q, tb[k]? = some q := ⟨_, List.getElem?_eq_getElem (by rw [HL.out]; omega)⟩
  have hownA := hown9.alloc (.cells #[.int .u16 0, .int .u8 0, .int .u8 0, .int .u8 0, .int .u8 0, .int .u8 0] 25)
  have hcell := hownA.cellAt k q hq
  have hfree := hownA.free k
  have HST := Lib.hid ((hown9.stored k x).alloc (.cells #[.int .u16 0, .int .u8 0, .int .u8 0, .int .u8 0, .int .u8 0, .int .u8 0] 25))
  have hg9 : g < w9.heap.size := (hown9.blk_lt (k := g) rfl).2
  clear hq hown9 hownA
  go_wp2_with fail
  refine calls_named fun w10 hw10 => ?_
  have hbw10 : Below w.heap.size w w10 := below_named hw10 ((hbw9.setCell (p := ⟨g, k, none⟩) (by show w.heap.size ≤ g; omega) _).alloc (by rw [World.size_setCell]; exact hs9) _)
  have hs10 := hbw10.size
  have hown10 : OwnB w10 w1.heap.size (some ⟨g, 0, none⟩) 15 c2 (tb.set k x) := hw10 ▸ HST.out
  clear hw10 HST hcell hfree hbw9
  refine (G3.out _ _ _ hown10.rb).mono ?_
  intro e w11 hw11
  obtain ⟨rfl, hb11⟩ := hw11
  have hbw11 := hbw10.trans (hb11.mono hs10)
  have hs11 := hbw11.size
  clear hb11 hbw10 hown10
  have XD : Hid (∀ z : Nat, (((x.toNat : Int) == (z : Int)) = decide (x.toNat = z))) := fun z => by rw [Bool.eq_iff_iff]; simp; omega
  have hcases : (k ≠ 14 ∧ x.toNat < 48 ∧ eo = none) ∨ (k ≠ 14 ∧ 57 < x.toNat ∧ eo = none) ∨ (k ≠ 14 ∧ 48 ≤ x.toNat ∧ x.toNat ≤ 57) ∨ (k = 14 ∧ x.toNat = 90) ∨ (k = 14 ∧ x.toNat < 48 ∧ eo = none) ∨ (k = 14 ∧ x.toNat ≠ 90 ∧ 57 < x.toNat ∧ eo = none) ∨ (k = 14 ∧ 48 ≤ x.toNat ∧ x.toNat ≤ 57 ∧ eo = none) := by
    have H := HQ.out
    have hx90 : (x == 90) = decide (x.toNat = 90) := by rw [Bool.eq_iff_iff]; simp; exact ⟨fun h => by rw [h]; rfl, fun h => UInt8.toNat_inj.1 h⟩
    unfold digQ digit at H
    rw [hx90] at H
    by_cases hk14 : k = 14
    · rw [if_pos hk14] at H
      by_cases h90 : x.toNat = 90
      · exact .inr (.inr (.inr (.inl ⟨hk14, h90⟩)))
      · have He := H (decide_eq_false h90)
        by_cases p1 : x.toNat < 48
        · exact .inr (.inr (.inr (.inr (.inl ⟨hk14, p1, He⟩))))
        · by_cases p2 : x.toNat ≤ 57
          · exact .inr (.inr (.inr (.inr (.inr (.inr ⟨hk14, by omega, p2, He⟩)))))
          · exact .inr (.inr (.inr (.inr (.inr (.inl ⟨hk14, h90, by omega, He⟩)))))
    · rw [if_neg hk14] at H
      by_cases p1 : x.toNat < 48
      · exact .inl ⟨hk14, p1, H (decide_eq_false (by omega))⟩
      · by_cases p2 : x.toNat ≤ 57
        · exact .inr (.inr (.inl ⟨hk14, by omega, p2⟩))
        · exact .inr (.inl ⟨hk14, by omega, H (decide_eq_false (by omega))⟩)
  clear HQ
  rcases hcases with ⟨c1, c2', rfl⟩ | ⟨c1, c2', rfl⟩ | ⟨c1, c2', c3⟩ | ⟨c1, c2'⟩ | ⟨c1, c2', rfl⟩ | ⟨c1, c0, c2', rfl⟩ | ⟨c1, c2', c3, rfl⟩
  · rw [opt_none]
    have e14 : ((k : Int) == 14) = false := beq_eq_false_iff_ne.2 (by omega)
    have g1 : decide ((48 : Int) ≤ (x.toNat : Int)) = false := decide_eq_false (by omega)
    clear XD
    go_wp2_with fail
    refine (WK.out _ (hT.below' (hbw11.alloc hs11 _))).mono ?_
    intro e w13 hw13
    obtain ⟨rfl, hb13⟩ := hw13
    have hbw13 := (hbw11.alloc hs11 _).trans (hb13.mono (by simp; omega))
    clear hb13
    go_wp2
    go_ret
    exact ⟨rfl, hbw13⟩
  · rw [opt_none]
    have e14 : ((k : Int) == 14) = false := beq_eq_false_iff_ne.2 (by omega)
    have g1 : decide ((48 : Int) ≤ (x.toNat : Int)) = true := decide_eq_true (by omega)
    have g2 : decide ((x.toNat : Int) ≤ 57) = false := decide_eq_false (by omega)
    clear XD
    go_wp2_with fail
    refine (WK.out _ (hT.below' (hbw11.alloc hs11 _))).mono ?_
    intro e w13 hw13
    obtain ⟨rfl, hb13⟩ := hw13
    have hbw13 := (hbw11.alloc hs11 _).trans (hb13.mono (by simp; omega))
    clear hb13
    go_wp2
    go_ret
    exact ⟨rfl, hbw13⟩
  · have e14 : ((k : Int) == 14) = false := beq_eq_false_iff_ne.2 (by omega)
    have g1 : decide ((48 : Int) ≤ (x.toNat : Int)) = true := decide_eq_true (by omega)
    have g2 : decide ((x.toNat : Int) ≤ 57) = true := decide_eq_true (by omega)
    clear XD
    cases eo with
    | none =>
      rw [opt_none]
      go_wp2_with fail
      refine (WK.out _ (hT.below' (hbw11.alloc hs11 _))).mono ?_
      intro e w13 hw13
      obtain ⟨rfl, hb13⟩ := hw13
      have hbw13 := (hbw11.alloc hs11 _).trans (hb13.mono (by simp; omega))
      clear hb13
      go_wp2
      go_ret
      exact ⟨rfl, hbw13⟩
    | some p =>
      rw [opt_some]
      unfold tmV Tm.cells
      obtain ⟨yp_, mop_, dp_, hp_, mip_, sp_⟩ := p
      simp only
      go_wp2_with fail
      refine (WK.out _ (hT.below' (hbw11.alloc hs11 _))).mono ?_
      intro e w13 hw13
      obtain ⟨rfl, hb13⟩ := hw13
      have hbw13 := (hbw11.alloc hs11 _).trans (hb13.mono (by simp; omega))
      clear hb13
      go_wp2
      go_ret
      exact ⟨rfl, hbw13⟩
  · have e14 : ((k : Int) == 14) = true := beq_iff_eq.2 (by omega)
    have g1 : decide ((48 : Int) ≤ (x.toNat : Int)) = true := decide_eq_true (by omega)
    have g2 : decide ((x.toNat : Int) ≤ 57) = false := decide_eq_false (by omega)
    have g3 : ((x.toNat : Int) == 90) = true := beq_iff_eq.2 (by omega)
    clear XD
    clear hkc
    cases eo with
    | none =>
      rw [opt_none]
      go_wp2_with fail
      refine (WK.out _ (hT.below' (hbw11.alloc hs11 _))).mono ?_
      intro e w13 hw13
      obtain ⟨rfl, hb13⟩ := hw13
      have hbw13 := (hbw11.alloc hs11 _).trans (hb13.mono (by simp; omega))
      clear hb13
      go_wp2
      go_ret
      exact ⟨rfl, hbw13⟩
    | some p =>
      rw [opt_some]
      unfold tmV Tm.cells
      obtain ⟨yp_, mop_, dp_, hp_, mip_, sp_⟩ := p
      simp only
      go_wp2_with fail
      refine (WK.out _ (hT.below' (hbw11.alloc hs11 _))).mono ?_
      intro e w13 hw13
      obtain ⟨rfl, hb13⟩ := hw13
      have hbw13 := (hbw11.alloc hs11 _).trans (hb13.mono (by simp; omega))
      clear hb13
      go_wp2
      go_ret
      exact ⟨rfl, hbw13⟩
  · rw [opt_none]
    have e14 : ((k : Int) == 14) = true := beq_iff_eq.2 (by omega)
    have g1 : decide ((48 : Int) ≤ (x.toNat : Int)) = false := decide_eq_false (by omega)
    have g3 : ((x.toNat : Int) == 90) = false := beq_eq_false_iff_ne.2 (by omega)
    clear XD
    clear hkc
    go_wp2_with fail
    refine (WK.out _ (hT.below' (hbw11.alloc hs11 _))).mono ?_
    intro e w13 hw13
    obtain ⟨rfl, hb13⟩ := hw13
    have hbw13 := (hbw11.alloc hs11 _).trans (hb13.mono (by simp; omega))
    clear hb13
    go_wp2
    go_ret
    exact ⟨rfl, hbw13⟩
  · rw [opt_none]
    have e14 : ((k : Int) == 14) = true := beq_iff_eq.2 (by omega)
    have g1 : decide ((48 : Int) ≤ (x.toNat : Int)) = true := decide_eq_true (by omega)
    have g2 : decide ((x.toNat : Int) ≤ 57) = false := decide_eq_false (by omega)
    have g3 : ((x.toNat : Int) == 90) = false := beq_eq_false_iff_ne.2 (by omega)
    clear XD
    clear hkc
    go_wp2_with fail
    refine (WK.out _ (hT.below' (hbw11.alloc hs11 _))).mono ?_
    intro e w13 hw13
    obtain ⟨rfl, hb13⟩ := hw13
    have hbw13 := (hbw11.alloc hs11 _).trans (hb13.mono (by simp; omega))
    clear hb13
    go_wp2
    go_ret
    exact ⟨rfl, hbw13⟩
  · rw [opt_none]
    have e14 : ((k : Int) == 14) = true := beq_iff_eq.2 (by omega)
    have g1 : decide ((48 : Int) ≤ (x.toNat : Int)) = true := decide_eq_true (by omega)
    have g2 : decide ((x.toNat : Int) ≤ 57) = true := decide_eq_true (by omega)
    have g3 : ((x.toNat : Int) == 90) = false := beq_eq_false_iff_ne.2 (by omega)
    clear XD
    clear hkc
    go_wp2_with fail
    refine (WK.out _ (hT.below' (hbw11.alloc hs11 _))).mono ?_
    intro e w13 hw13
    obtain ⟨rfl, hb13⟩ := hw13
    have hbw13 := (hbw11.alloc hs11 _).trans (hb13.mono (by simp; omega))
    clear hb13
    go_wp2
    go_ret
    exact ⟨rfl, hbw13⟩
set_option maxHeartbeats 3200000 in
theorem cuts_neg (t : Tm) (at_ : Int) (x : UInt8) (w : World) (ht : IsTm w t) (h64 : -9223372036854775808 ≤ at_ ∧ at_ ≤ 9223372036854775807) (hT : Sizes w) (hr : rightB t = true) (k : Nat) (hk : k < 15) (hm : at_.tmod 15 = (k : Int) - 15) (hk0 : 0 < k) :
    Calls Tryd.prog 10 #[tmV t, .int .i64 at_, .int .u8 (x.toNat : Int)] w fun e w' => e = .returned (.bool true) ∧ Below w.heap.size w w' := by
  have hy : t.y < 65536 := ht
  obtain ⟨a1, a2⟩ := h64
  have WK := Lib.hid (fun W (h : Sizes W) => works_any W h)
  have RT := Lib.hid (fun W => right_any t W hy)
  rw [hr] at RT
  have XT := Lib.hid (fun W => text_any t W hr)
  have hq := cut_quiet t k x hk
  have HL := Lib.hid (text_len t)
  have hlt : ((textB t).take k).length = k := by rw [List.length_take, HL.out]; omega
  have HLT := Lib.hid hlt
  have hls : ((textB t).set k x).length = 15 := by rw [List.length_set]; exact HL.out
  have G1 : Hid (∀ A c W, RB W A k ((textB t).take k) → Calls Tryd.prog 17 #[.slice A k c] W fun e w' => e = .returned (.tuple #[.agg #[.int .u16 0, .int .u8 0, .int .u8 0, .int .u8 0, .int .u8 0, .int .u8 0], .bool false]) ∧ Below W.heap.size W w') := fun A c W h => by
    have := gen_any A k c _ W h (by omega)
    rwa [opt_zero W _ (by rw [hlt]; omega)] at this
  have G2 : Hid (∀ A c W, RB W A 16 (textB t ++ [x]) → Calls Tryd.prog 17 #[.slice A 16 c] W fun e w' => e = .returned (.tuple #[.agg #[.int .u16 0, .int .u8 0, .int .u8 0, .int .u8 0, .int .u8 0, .int .u8 0], .bool false]) ∧ Below W.heap.size W w') := fun A c W h => by
    have := gen_any A 16 c _ W h (by omega)
    rwa [opt_zero W _ (by rw [h.1]; omega)] at this
  have U1 : Hid (∀ A c W, RB W A 15 (textB t) → Calls Tryd.prog 15 #[.slice A 15 c] W fun e w' => e = .returned (.tuple #[.agg #[.int .u16 0, .int .u8 0, .int .u8 0, .int .u8 0, .int .u8 0, .int .u8 0], .bool false]) ∧ Below W.heap.size W w') := fun A c W h => by
    have := utc_any A 15 c _ W h (by omega)
    rwa [opt_zero2 W _ (by rw [h.1]; omega)] at this
  have G3 : Hid (∀ A c W, RB W A 15 ((textB t).set k x) → Calls Tryd.prog 17 #[.slice A 15 c] W fun e w' => e = .returned (optV (genO ((textB t).set k x))) ∧ Below W.heap.size W w') := fun A c W h => gen_any A 15 c _ W h (by omega)
  clear hlt hls hr ht
  generalize genO ((textB t).set k x) = eo at G3 hq
  generalize textB t = tb at XT HL HLT G1 G2 U1 G3
  have HQ := Lib.hid hq
  have HM := Lib.hid hm
  clear hq
  have hxb := x.toNat_lt
  have k1 : (0 : Int) ≤ (k : Int) := by omega
  have k2 : (k : Int) < 15 := by omega
  have k3 : (k : Int) - 15 < 0 := by omega
  have k4 : -15 ≤ (k : Int) - 15 := by omega
  unfold tmV Tm.cells at *
  obtain ⟨yt_, mot_, dt_, ht_, mit_, st_⟩ := t
  simp only at *
  go_enter Tryd.func10, Tryd.ntmps10
  go_wp2_with fail
  refine (RT.out _).mono ?_
  intro e w1 hw1
  obtain ⟨rfl, hb1⟩ := hw1
  have hbw1 : Below w.heap.size w w1 := ((Below.refl _ _).alloc (Nat.le_refl _) _).trans (hb1.mono (by simp))
  have hs1 := hbw1.size
  have k11 := (hb1.block w.heap.size (by simp)).trans (heap_alloc_new w _)
  clear hb1
  obtain ⟨ca0, ca1, ca2, ca3, ca4, ca5⟩ := cells6 k11
  go_wp2_with fail
  refine (XT.out _).mono ?_
  rintro e w2 ⟨A2, n2, c2, rfl, hown2, hb2⟩
  obtain rfl : 15 = n2 := HL.out.symm.trans hown2.len
  have hc2 := hown2.cap
  unfold maxLen at hc2
  obtain ⟨hc2a, hc2b⟩ := hc2
  have hbw2 := hbw1.trans (hb2.mono hs1)
  have hs2 := hbw2.size
  obtain ⟨g, rfl, hg1, hg2⟩ := hown2.shape (by omega)
  clear ca0 ca1 ca2 ca3 ca4 ca5 hb2 k11 hbw1
  have hkc : (k : Int) ≤ (c2 : Int) := by omega
  have hrt : RB w2 (some ⟨g, 0, none⟩) k (tb.take k) := ⟨HLT.out, hown2.reads.take_ k⟩
  go_wp2_with fail
  refine (G1.out _ _ _ hrt).mono ?_
  intro e w3 hw3
  obtain ⟨rfl, hb3⟩ := hw3
  have hbw3 := hbw2.trans (hb3.mono hs2)
  have hs3 := hbw3.size
  have hown3 := hown2.below hb3 (Nat.le_refl _)
  clear hb3 hbw2 hown2 hrt
  go_wp2_with fail
  refine calls_named fun w4 hw4 => ?_
  have hbw4 : Below w.heap.size w w4 := below_named hw4 (hbw3.alloc hs3 _)
  have hs4 := hbw4.size
  have hown4 : OwnB w4 w1.heap.size (some ⟨g, 0, none⟩) 15 c2 tb := hw4 ▸ hown3.alloc _
  clear hw4 hown3 hbw3
  refine (copy_any _ 15 c2 tb w4 hown4.rb (by omega)).mono ?_
  rintro e w5 ⟨A5, n5, c5, rfl, hown5, hb5⟩
  obtain rfl : 15 = n5 := HL.out.symm.trans hown5.len
  have hbw5 := hbw4.trans (hb5.mono hs4)
  have hs5 := hbw5.size
  have hown45 := hown4.below hb5 (Nat.le_refl _)
  have hown5' := hown5.lower hs4
  have hfar : blk A5 = none ∨ blk A5 ≠ some g := by
    rcases hA : blk A5 with _ | g5
    · exact .inl rfl
    · exact .inr (by have h7 := (hown5.blk_lt hA).1; have h8 := (hown4.blk_lt (k := g) rfl).2; intro e; injection e with e; omega)
  have HF := Lib.hid hfar
  clear hb5 hbw4 hown4 hown5 hfar
  go_wp2_with (at_builtin; refine wpList_app _ _ rfl rfl rfl w.heap.size A5 _ c5 tb rfl (hown5'.alloc _) (w5.heap.size + 1) (some ⟨w5.heap.size, 0, none⟩) 1 [x] rfl (bs_new _ _ _ _ _ rfl) (by rw [HL.out]; simp) (by simp; omega) ?_)
  intro A6 c6 w6 hown6 hg6
  have hbw6 : Below w.heap.size w w6 := (hbw5.alloc hs5 _).grown hg6 (by simp; omega) (fun q hq => (hown5'.blk_lt hq).1)
  have hs6 := hbw6.size
  have hown46 : OwnB w6 w1.heap.size (some ⟨g, 0, none⟩) 15 c2 tb := (hown45.alloc _).kept hg6 (by rcases HF.out with h | h; exact .inr (by rw [h]; exact fun e => by cases e); exact .inr (fun e => h e.symm))
  clear hg6 hown5' hown45 hbw5 HF
  go_wp2_with fail
  refine (G2.out _ _ _ hown6.rb).mono ?_
  intro e w7 hw7
  obtain ⟨rfl, hb7⟩ := hw7
  have hbw7 := hbw6.trans (hb7.mono hs6)
  have hs7 := hbw7.size
  have hown7 := hown46.below hb7 (Nat.le_refl _)
  clear hb7 hbw6 hown6 hown46
  go_wp2_with fail
  refine calls_named fun w8 hw8 => ?_
  have hbw8 : Below w.heap.size w w8 := below_named hw8 (hbw7.alloc hs7 _)
  have hs8 := hbw8.size
  have hown8 : OwnB w8 w1.heap.size (some ⟨g, 0, none⟩) 15 c2 tb := hw8 ▸ hown7.alloc _
  clear hw8 hown7 hbw7
  refine (U1.out _ _ _ hown8.rb).mono ?_
  intro e w9 hw9
  obtain ⟨rfl, hb9⟩ := hw9
  have hbw9 := hbw8.trans (hb9.mono hs8)
  have hs9 := hbw9.size
  have hown9 := hown8.below hb9 (Nat.le_refl _)
  clear hb9 hbw8 hown8
  obtain ⟨q, hq⟩ : ∃ q, tb[k]? = some q := ⟨_, List.getElem?_eq_getElem (by rw [HL.out]; omega)⟩
  have hownA := hown9.alloc (.cells #[.int .u16 0, .int .u8 0, .int .u8 0, .int .u8 0, .int .u8 0, .int .u8 0] 25)
  have hcell := hownA.cellAt k q hq
  have hfree := hownA.free k
  have HST := Lib.hid ((hown9.stored k x).alloc (.cells #[.int .u16 0, .int .u8 0, .int .u8 0, .int .u8 0, .int .u8 0, .int .u8 0] 25))
  have hg9 : g < w9.heap.size := (hown9.blk_lt (k := g) rfl).2
  clear hq hown9 hownA
  go_wp2_with fail
  refine calls_named fun w10 hw10 => ?_
  have hbw10 : Below w.heap.size w w10 := below_named hw10 ((hbw9.setCell (p := ⟨g, k, none⟩) (by show w.heap.size ≤ g; omega) _).alloc (by rw [World.size_setCell]; exact hs9) _)
  have hs10 := hbw10.size
  have hown10 : OwnB w10 w1.heap.size (some ⟨g, 0, none⟩) 15 c2 (tb.set k x) := hw10 ▸ HST.out
  clear hw10 HST hcell hfree hbw9
  refine (G3.out _ _ _ hown10.rb).mono ?_
  intro e w11 hw11
  obtain ⟨rfl, hb11⟩ := hw11
  have hbw11 := hbw10.trans (hb11.mono hs10)
  have hs11 := hbw11.size
  clear hb11 hbw10 hown10
  have XD : Hid (∀ z : Nat, (((x.toNat : Int) == (z : Int)) = decide (x.toNat = z))) := fun z => by rw [Bool.eq_iff_iff]; simp; omega
  have hcases : (k ≠ 14 ∧ x.toNat < 48 ∧ eo = none) ∨ (k ≠ 14 ∧ 57 < x.toNat ∧ eo = none) ∨ (k ≠ 14 ∧ 48 ≤ x.toNat ∧ x.toNat ≤ 57) ∨ (k = 14 ∧ x.toNat = 90) ∨ (k = 14 ∧ x.toNat < 48 ∧ eo = none) ∨ (k = 14 ∧ x.toNat ≠ 90 ∧ 57 < x.toNat ∧ eo = none) ∨ (k = 14 ∧ 48 ≤ x.toNat ∧ x.toNat ≤ 57 ∧ eo = none) := by
    have H := HQ.out
    have hx90 : (x == 90) = decide (x.toNat = 90) := by rw [Bool.eq_iff_iff]; simp; exact ⟨fun h => by rw [h]; rfl, fun h => UInt8.toNat_inj.1 h⟩
    unfold digQ digit at H
    rw [hx90] at H
    by_cases hk14 : k = 14
    · rw [if_pos hk14] at H
      by_cases h90 : x.toNat = 90
      · exact .inr (.inr (.inr (.inl ⟨hk14, h90⟩)))
      · have He := H (decide_eq_false h90)
        by_cases p1 : x.toNat < 48
        · exact .inr (.inr (.inr (.inr (.inl ⟨hk14, p1, He⟩))))
        · by_cases p2 : x.toNat ≤ 57
          · exact .inr (.inr (.inr (.inr (.inr (.inr ⟨hk14, by omega, p2, He⟩)))))
          · exact .inr (.inr (.inr (.inr (.inr (.inl ⟨hk14, h90, by omega, He⟩)))))
    · rw [if_neg hk14] at H
      by_cases p1 : x.toNat < 48
      · exact .inl ⟨hk14, p1, H (decide_eq_false (by omega))⟩
      · by_cases p2 : x.toNat ≤ 57
        · exact .inr (.inr (.inl ⟨hk14, by omega, p2⟩))
        · exact .inr (.inl ⟨hk14, by omega, H (decide_eq_false (by omega))⟩)
  clear HQ
  rcases hcases with ⟨c1, c2', rfl⟩ | ⟨c1, c2', rfl⟩ | ⟨c1, c2', c3⟩ | ⟨c1, c2'⟩ | ⟨c1, c2', rfl⟩ | ⟨c1, c0, c2', rfl⟩ | ⟨c1, c2', c3, rfl⟩
  · rw [opt_none]
    have e14 : ((k : Int) == 14) = false := beq_eq_false_iff_ne.2 (by omega)
    have g1 : decide ((48 : Int) ≤ (x.toNat : Int)) = false := decide_eq_false (by omega)
    clear XD
    go_wp2_with fail
    refine (WK.out _ (hT.below' (hbw11.alloc hs11 _))).mono ?_
    intro e w13 hw13
    obtain ⟨rfl, hb13⟩ := hw13
    have hbw13 := (hbw11.alloc hs11 _).trans (hb13.mono (by simp; omega))
    clear hb13
    go_wp2
    go_ret
    exact ⟨rfl, hbw13⟩
  · rw [opt_none]
    have e14 : ((k : Int) == 14) = false := beq_eq_false_iff_ne.2 (by omega)
    have g1 : decide ((48 : Int) ≤ (x.toNat : Int)) = true := decide_eq_true (by omega)
    have g2 : decide ((x.toNat : Int) ≤ 57) = false := decide_eq_false (by omega)
    clear XD
    go_wp2_with fail
    refine (WK.out _ (hT.below' (hbw11.alloc hs11 _))).mono ?_
    intro e w13 hw13
    obtain ⟨rfl, hb13⟩ := hw13
    have hbw13 := (hbw11.alloc hs11 _).trans (hb13.mono (by simp; omega))
    clear hb13
    go_wp2
    go_ret
    exact ⟨rfl, hbw13⟩
  · have e14 : ((k : Int) == 14) = false := beq_eq_false_iff_ne.2 (by omega)
    have g1 : decide ((48 : Int) ≤ (x.toNat : Int)) = true := decide_eq_true (by omega)
    have g2 : decide ((x.toNat : Int) ≤ 57) = true := decide_eq_true (by omega)
    clear XD
    cases eo with
    | none =>
      rw [opt_none]
      go_wp2_with fail
      refine (WK.out _ (hT.below' (hbw11.alloc hs11 _))).mono ?_
      intro e w13 hw13
      obtain ⟨rfl, hb13⟩ := hw13
      have hbw13 := (hbw11.alloc hs11 _).trans (hb13.mono (by simp; omega))
      clear hb13
      go_wp2
      go_ret
      exact ⟨rfl, hbw13⟩
    | some p =>
      rw [opt_some]
      unfold tmV Tm.cells
      obtain ⟨yp_, mop_, dp_, hp_, mip_, sp_⟩ := p
      simp only
      go_wp2_with fail
      refine (WK.out _ (hT.below' (hbw11.alloc hs11 _))).mono ?_
      intro e w13 hw13
      obtain ⟨rfl, hb13⟩ := hw13
      have hbw13 := (hbw11.alloc hs11 _).trans (hb13.mono (by simp; omega))
      clear hb13
      go_wp2
      go_ret
      exact ⟨rfl, hbw13⟩
  · have e14 : ((k : Int) == 14) = true := beq_iff_eq.2 (by omega)
    have g1 : decide ((48 : Int) ≤ (x.toNat : Int)) = true := decide_eq_true (by omega)
    have g2 : decide ((x.toNat : Int) ≤ 57) = false := decide_eq_false (by omega)
    have g3 : ((x.toNat : Int) == 90) = true := beq_iff_eq.2 (by omega)
    clear XD
    clear hkc
    cases eo with
    | none =>
      rw [opt_none]
      go_wp2_with fail
      refine (WK.out _ (hT.below' (hbw11.alloc hs11 _))).mono ?_
      intro e w13 hw13
      obtain ⟨rfl, hb13⟩ := hw13
      have hbw13 := (hbw11.alloc hs11 _).trans (hb13.mono (by simp; omega))
      clear hb13
      go_wp2
      go_ret
      exact ⟨rfl, hbw13⟩
    | some p =>
      rw [opt_some]
      unfold tmV Tm.cells
      obtain ⟨yp_, mop_, dp_, hp_, mip_, sp_⟩ := p
      simp only
      go_wp2_with fail
      refine (WK.out _ (hT.below' (hbw11.alloc hs11 _))).mono ?_
      intro e w13 hw13
      obtain ⟨rfl, hb13⟩ := hw13
      have hbw13 := (hbw11.alloc hs11 _).trans (hb13.mono (by simp; omega))
      clear hb13
      go_wp2
      go_ret
      exact ⟨rfl, hbw13⟩
  · rw [opt_none]
    have e14 : ((k : Int) == 14) = true := beq_iff_eq.2 (by omega)
    have g1 : decide ((48 : Int) ≤ (x.toNat : Int)) = false := decide_eq_false (by omega)
    have g3 : ((x.toNat : Int) == 90) = false := beq_eq_false_iff_ne.2 (by omega)
    clear XD
    clear hkc
    go_wp2_with fail
    refine (WK.out _ (hT.below' (hbw11.alloc hs11 _))).mono ?_
    intro e w13 hw13
    obtain ⟨rfl, hb13⟩ := hw13
    have hbw13 := (hbw11.alloc hs11 _).trans (hb13.mono (by simp; omega))
    clear hb13
    go_wp2
    go_ret
    exact ⟨rfl, hbw13⟩
  · rw [opt_none]
    have e14 : ((k : Int) == 14) = true := beq_iff_eq.2 (by omega)
    have g1 : decide ((48 : Int) ≤ (x.toNat : Int)) = true := decide_eq_true (by omega)
    have g2 : decide ((x.toNat : Int) ≤ 57) = false := decide_eq_false (by omega)
    have g3 : ((x.toNat : Int) == 90) = false := beq_eq_false_iff_ne.2 (by omega)
    clear XD
    clear hkc
    go_wp2_with fail
    refine (WK.out _ (hT.below' (hbw11.alloc hs11 _))).mono ?_
    intro e w13 hw13
    obtain ⟨rfl, hb13⟩ := hw13
    have hbw13 := (hbw11.alloc hs11 _).trans (hb13.mono (by simp; omega))
    clear hb13
    go_wp2
    go_ret
    exact ⟨rfl, hbw13⟩
  · rw [opt_none]
    have e14 : ((k : Int) == 14) = true := beq_iff_eq.2 (by omega)
    have g1 : decide ((48 : Int) ≤ (x.toNat : Int)) = true := decide_eq_true (by omega)
    have g2 : decide ((x.toNat : Int) ≤ 57) = true := decide_eq_true (by omega)
    have g3 : ((x.toNat : Int) == 90) = false := beq_eq_false_iff_ne.2 (by omega)
    clear XD
    clear hkc
    go_wp2_with fail
    refine (WK.out _ (hT.below' (hbw11.alloc hs11 _))).mono ?_
    intro e w13 hw13
    obtain ⟨rfl, hb13⟩ := hw13
    have hbw13 := (hbw11.alloc hs11 _).trans (hb13.mono (by simp; omega))
    clear hb13
    go_wp2
    go_ret
    exact ⟨rfl, hbw13⟩
theorem cuts_row (t : Tm) (at_ z : Int) (w : World) (ht : IsTm w t) (ha : (Lit.int .i64 at_).wf = true) (hz : (Lit.int .u8 z).wf = true) (hT : Sizes w) :
    Calls Tryd.prog 10 #[tmV t, .int .i64 at_, .int .u8 z] w fun e w' => e = .returned (.bool true) ∧ Below w.heap.size w w' := by
  obtain ⟨x, rfl⟩ : ∃ x : UInt8, z = (x.toNat : Int) := ⟨UInt8.ofNat z.toNat, (byte_of_wf hz).symm⟩
  cases hr : rightB t with
  | true =>
    obtain ⟨k, hk, hm | ⟨hm, hk0⟩⟩ := mod15 at_
    · exact cuts_pos t at_ x w ht (bounds_i64 ha) hT hr k hk hm
    · exact cuts_neg t at_ x w ht (bounds_i64 ha) hT hr k hk hm hk0
  | false =>
    have hy : t.y < 65536 := ht
    have WK := Lib.hid (fun W (h : Sizes W) => works_any W h)
    have RT := Lib.hid (fun W => right_any t W hy)
    rw [hr] at RT
    clear hr
    unfold tmV Tm.cells at *
    obtain ⟨yt_, mot_, dt_, ht_, mit_, st_⟩ := t
    simp only at *
    go_enter Tryd.func10, Tryd.ntmps10
    go_wp2_with fail
    refine (RT.out _).mono ?_
    intro e w1 hw1
    obtain ⟨rfl, hb1⟩ := hw1
    have hbw1 : Below w.heap.size w w1 := ((Below.refl _ _).alloc (Nat.le_refl _) _).trans (hb1.mono (by simp))
    clear hb1
    go_wp2_with fail
    refine (WK.out _ (hT.below' hbw1)).mono ?_
    intro e w9 hw9
    obtain ⟨rfl, hb9⟩ := hw9
    go_wp2
    go_ret
    exact ⟨rfl, hbw1.trans (hb9.mono hbw1.size)⟩
end Go.Proofs.YtepakdgpaaeelaaDoor
