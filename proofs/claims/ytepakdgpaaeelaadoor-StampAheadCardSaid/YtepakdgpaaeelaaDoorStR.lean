/-
  stamp: digits come first as moments do.
-/
import Derived.Test.YtepakdgpaaeelaaDoorStQ
namespace Go.Proofs.YtepakdgpaaeelaaDoor
open Go.RowKit Go
set_option linter.unusedVariables false
set_option maxRecDepth 100000
theorem bl1 (p q : UInt8) (X Y : List UInt8) : Op.bytesLess (p :: X) (q :: Y) = if p.toNat = q.toNat then Op.bytesLess X Y else decide (p.toNat < q.toNat) := by
  have e : Op.bytesLess (p :: X) (q :: Y) = (decide (p < q) || (p == q && Op.bytesLess X Y)) := rfl
  rw [e]
  by_cases h : p.toNat = q.toNat
  · have h2 : p = q := UInt8.toNat_inj.1 h
    subst h2
    rw [if_pos rfl]
    have h3 : decide (p < p) = false := decide_eq_false (by rw [UInt8.lt_iff_toNat_lt]; omega)
    rw [h3]
    simp
  · rw [if_neg h]
    have h2 : (p == q) = false := beq_eq_false_iff_ne.2 (fun e => h (by rw [e]))
    rw [h2]
    simp [UInt8.lt_iff_toNat_lt]
theorem bl2 (a b : Nat) (ha : a < 100) (hb : b < 100) (X Y : List UInt8) : Op.bytesLess (dig2 a ++ X) (dig2 b ++ Y) = if a = b then Op.bytesLess X Y else decide (a < b) := by
  show Op.bytesLess (dig (a / 10) :: dig a :: X) (dig (b / 10) :: dig b :: Y) = _
  rw [bl1, bl1, dig_num, dig_num, dig_num, dig_num]
  by_cases h : a = b
  · subst h
    rw [if_pos rfl, if_pos rfl, if_pos rfl]
  · rw [if_neg h]
    by_cases h1 : a / 10 = b / 10
    · rw [if_pos (by rw [h1]), if_neg (by omega), Bool.eq_iff_iff]
      simp
      omega
    · rw [if_neg (by omega), Bool.eq_iff_iff]
      simp
      omega
theorem textB_app (t : Tm) : textB t = dig2 (t.duo 0) ++ (dig2 (t.duo 1) ++ (dig2 (t.duo 2) ++ (dig2 (t.duo 3) ++ (dig2 (t.duo 4) ++ (dig2 (t.duo 5) ++ (dig2 (t.duo 6) ++ [90])))))) := rfl
theorem less_step (t u : Tm) (n k : Nat) : lessFrom t u (n + 1) k = if t.num k = u.num k then lessFrom t u n (k + 1) else decide (t.num k < u.num k) := rfl
theorem bytes_less {t u : Tm} (ht : rightB t = true) (hu : rightB u = true) : Op.bytesLess (textB t) (textB u) = lessB t u := by
  have d := duo_lt ht
  have e := duo_lt hu
  rw [textB_app, textB_app, bl2 _ _ (d 0 (by omega)) (e 0 (by omega)), bl2 _ _ (d 1 (by omega)) (e 1 (by omega)), bl2 _ _ (d 2 (by omega)) (e 2 (by omega)), bl2 _ _ (d 3 (by omega)) (e 3 (by omega)), bl2 _ _ (d 4 (by omega)) (e 4 (by omega)), bl2 _ _ (d 5 (by omega)) (e 5 (by omega)), bl2 _ _ (d 6 (by omega)) (e 6 (by omega))]
  have hz : Op.bytesLess [90] [90] = false := rfl
  rw [hz]
  unfold lessB
  rw [less_step, less_step, less_step, less_step, less_step, less_step]
  have hl : lessFrom t u 0 (0 + 1 + 1 + 1 + 1 + 1 + 1) = false := rfl
  rw [hl]
  simp only [Tm.duo, Tm.num]
  by_cases h : t.y = u.y
  · rw [if_pos (by rw [h]), if_pos (by rw [h]), if_pos h]
  · rw [if_neg h]
    by_cases h1 : t.y / 100 = u.y / 100
    · rw [if_pos h1, if_neg (by omega), Bool.eq_iff_iff]
      simp
      omega
    · rw [if_neg h1, Bool.eq_iff_iff]
      simp
      omega
end Go.Proofs.YtepakdgpaaeelaaDoor
