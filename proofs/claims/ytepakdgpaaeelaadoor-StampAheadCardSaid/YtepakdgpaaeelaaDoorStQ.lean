/-
  stamp: a moment's digits tell it.
-/
import Derived.Test.YtepakdgpaaeelaaDoorStP
namespace Go.Proofs.YtepakdgpaaeelaaDoor
open Go.RowKit Go
set_option linter.unusedVariables false
set_option maxRecDepth 100000
theorem pair_dig2 (x : Nat) (hx : x < 100) : pairI (dig (x / 10)) (dig x) = (x : Int) := by
  have h1 := dig_num x
  have h2 := dig_num (x / 10)
  exact (pairI_yes (z := (x : Int)) (by omega) (by omega)).symm
theorem textB_eq (t : Tm) : textB t = [dig (t.y / 100 / 10), dig (t.y / 100), dig (t.y % 100 / 10), dig (t.y % 100), dig (t.mo.toNat / 10), dig t.mo.toNat, dig (t.d.toNat / 10), dig t.d.toNat, dig (t.h.toNat / 10), dig t.h.toNat, dig (t.mi.toNat / 10), dig t.mi.toNat, dig (t.s.toNat / 10), dig t.s.toNat, 90] := rfl
theorem text_len (t : Tm) : (textB t).length = 15 := rfl
theorem text_pairs {t : Tm} (h : rightB t = true) : pairAt (textB t) 0 = (t.y / 100 : Nat) ∧ pairAt (textB t) 2 = (t.y % 100 : Nat) ∧ pairAt (textB t) 4 = (t.mo.toNat : Nat) ∧ pairAt (textB t) 6 = (t.d.toNat : Nat) ∧ pairAt (textB t) 8 = (t.h.toNat : Nat) ∧ pairAt (textB t) 10 = (t.mi.toNat : Nat) ∧ pairAt (textB t) 12 = (t.s.toNat : Nat) := by
  have d := duo_lt h
  refine ⟨?_, ?_, ?_, ?_, ?_, ?_, ?_⟩
  · exact pair_dig2 _ (d 0 (by omega))
  · exact pair_dig2 _ (d 1 (by omega))
  · exact pair_dig2 _ (d 2 (by omega))
  · exact pair_dig2 _ (d 3 (by omega))
  · exact pair_dig2 _ (d 4 (by omega))
  · exact pair_dig2 _ (d 5 (by omega))
  · exact pair_dig2 _ (d 6 (by omega))
theorem drop_pairs (bs : List UInt8) (k : Nat) : pairAt (bs.drop 2) k = pairAt bs (2 + k) := by
  unfold pairAt
  simp only [List.getD_eq_getElem?_getD, List.getElem?_drop, Nat.add_assoc]
theorem ofNat_u8 (a : UInt8) : UInt8.ofNat a.toNat = a := by simp
theorem tmOf_text (t : Tm) (y : Nat) : tmOf (y : Nat) (t.mo.toNat : Nat) (t.d.toNat : Nat) (t.h.toNat : Nat) (t.mi.toNat : Nat) (t.s.toNat : Nat) = ⟨y, t.mo, t.d, t.h, t.mi, t.s⟩ := by
  unfold tmOf
  simp only [Int.toNat_natCast, ofNat_u8]
theorem nums_text (t : Tm) (y : Nat) : numsO (y : Nat) (t.mo.toNat : Nat) (t.d.toNat : Nat) (t.h.toNat : Nat) (t.mi.toNat : Nat) (t.s.toNat : Nat) = rightO ⟨y, t.mo, t.d, t.h, t.mi, t.s⟩ := by
  unfold numsO
  rw [if_pos (by omega), tmOf_text]
theorem gen_text {t : Tm} (h : rightB t = true) : genO (textB t) = some t := by
  obtain ⟨p0, p1, p2, p3, p4, p5, p6⟩ := text_pairs h
  unfold genO
  rw [if_pos ⟨rfl, rfl⟩, p0, p1, p2, p3, p4, p5, p6]
  have e : yearG ((t.y / 100 : Nat) : Int) ((t.y % 100 : Nat) : Int) = ((t.y : Nat) : Int) := by
    unfold yearG
    rw [if_neg (by omega)]
    omega
  rw [e, nums_text]
  unfold rightO
  rw [if_pos h]
/-- The year that two digits tell. -/
def year2 (y : Nat) : Nat := if y % 100 < 50 then y % 100 + 2000 else y % 100 + 1900
theorem utc_text {t : Tm} (h : rightB t = true) : utcO ((textB t).drop 2) = rightO ⟨year2 t.y, t.mo, t.d, t.h, t.mi, t.s⟩ := by
  obtain ⟨p0, p1, p2, p3, p4, p5, p6⟩ := text_pairs h
  unfold utcO
  rw [if_pos ⟨rfl, rfl⟩]
  simp only [drop_pairs]
  rw [p1, p2, p3, p4, p5, p6]
  have e : yearU ((t.y % 100 : Nat) : Int) = ((year2 t.y : Nat) : Int) := by
    unfold yearU year2
    rw [if_neg (by omega)]
    by_cases q : t.y % 100 < 50
    · rw [if_pos (by omega), if_pos q]; omega
    · rw [if_neg (by omega), if_neg q]; omega
  rw [e, nums_text]
theorem year2_eq (y : Nat) : (year2 y = y ↔ (1950 ≤ y ∧ y < 2050)) ∧ year2 y % 100 = y % 100 ∧ 1950 ≤ year2 y ∧ year2 y < 2050 := by
  unfold year2
  split <;> omega
theorem gen_len {bs : List UInt8} (h : bs.length ≠ 15) : genO bs = none := if_neg (fun x => h x.1)
theorem utc_len {bs : List UInt8} (h : bs.length ≠ 13) : utcO bs = none := if_neg (fun x => h x.1)
theorem pairI_bad {p q : UInt8} (h : digit p = false ∨ digit q = false) : pairI p q = -1 := by
  unfold pairI
  rw [if_neg]
  rcases h with h | h <;> simp [h]
theorem pairI_neg {p q : UInt8} (h : digit p = false ∨ digit q = false) : pairI p q < 0 := by rw [pairI_bad h]; omega
theorem numsO_bad {yv z1 z2 z3 z4 z5 : Int} (h : yv < 0 ∨ z1 < 0 ∨ z2 < 0 ∨ z3 < 0 ∨ z4 < 0 ∨ z5 < 0) : numsO yv z1 z2 z3 z4 z5 = none := if_neg (by omega)
theorem yearG_bad {u v : Int} (h : u = -1 ∨ v = -1) : yearG u v < 0 := by unfold yearG; rw [if_pos (by omega)]; omega
/-- A digit turned to what is none. -/
theorem gen_turned (t : Tm) (k : Nat) (x : UInt8) (hk : k < 14) (hx : digit x = false) : genO ((textB t).set k x) = none := by
  unfold genO
  split
  · match k, hk with
    | 0, _ => exact numsO_bad (.inl (yearG_bad (.inl (pairI_bad (.inl hx)))))
    | 1, _ => exact numsO_bad (.inl (yearG_bad (.inl (pairI_bad (.inr hx)))))
    | 2, _ => exact numsO_bad (.inl (yearG_bad (.inr (pairI_bad (.inl hx)))))
    | 3, _ => exact numsO_bad (.inl (yearG_bad (.inr (pairI_bad (.inr hx)))))
    | 4, _ => exact numsO_bad (.inr (.inl (pairI_neg (.inl hx))))
    | 5, _ => exact numsO_bad (.inr (.inl (pairI_neg (.inr hx))))
    | 6, _ => exact numsO_bad (.inr (.inr (.inl (pairI_neg (.inl hx)))))
    | 7, _ => exact numsO_bad (.inr (.inr (.inl (pairI_neg (.inr hx)))))
    | 8, _ => exact numsO_bad (.inr (.inr (.inr (.inl (pairI_neg (.inl hx))))))
    | 9, _ => exact numsO_bad (.inr (.inr (.inr (.inl (pairI_neg (.inr hx))))))
    | 10, _ => exact numsO_bad (.inr (.inr (.inr (.inr (.inl (pairI_neg (.inl hx)))))))
    | 11, _ => exact numsO_bad (.inr (.inr (.inr (.inr (.inl (pairI_neg (.inr hx)))))))
    | 12, _ => exact numsO_bad (.inr (.inr (.inr (.inr (.inr (pairI_neg (.inl hx)))))))
    | 13, _ => exact numsO_bad (.inr (.inr (.inr (.inr (.inr (pairI_neg (.inr hx)))))))
  · rfl
theorem gen_noZ (t : Tm) (x : UInt8) (hx : x ≠ 90) : genO ((textB t).set 14 x) = none := by
  unfold genO
  rw [if_neg]
  rintro ⟨_, h⟩
  have h : some x = some 90 := h
  injection h with h
  exact hx h
end Go.Proofs.YtepakdgpaaeelaaDoor
