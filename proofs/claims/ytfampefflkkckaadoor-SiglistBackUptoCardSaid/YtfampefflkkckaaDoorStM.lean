/-
  stamp: plain facts of a moment's bytes.
-/
import Derived.Test.YtfampefflkkckaaDoorStL
namespace Go.Proofs.YtfampefflkkckaaDoor
open Go.RowKit Go
set_option linter.unusedVariables false
set_option maxRecDepth 100000
theorem leB_two (y : Nat) : leB y 2 = [nb y 0, nb y 1] := rfl
theorem nb0 (y : Nat) : (nb y 0).toNat = y % 256 := by unfold nb; simp
theorem nb1 (y : Nat) : (nb y 1).toNat = y / 256 % 256 := by unfold nb; simp
theorem leN_two (a b : UInt8) : leN [a, b] = a.toNat + 256 * b.toNat := by simp [leN]
theorem leN_leB (y : Nat) (hy : y < 65536) : leN (leB y 2) = y := by
  rw [leB_two, leN_two, nb0, nb1]
  omega
theorem tmB_eq (t : Tm) : tmB t = [nb t.y 0, nb t.y 1, t.mo, t.d, t.h, t.mi, t.s, 0, 0, 0, 0, 0, 0, 0, 0, 0] := rfl
theorem tmB_len (t : Tm) : (tmB t).length = 16 := rfl
theorem tmR_tmB (t : Tm) (hy : t.y < 65536) : tmR (tmB t) = t := by
  have e : tmR (tmB t) = ⟨leN (leB t.y 2), t.mo, t.d, t.h, t.mi, t.s⟩ := rfl
  rw [e, leN_leB t.y hy]
theorem readO_tmB (t : Tm) (hy : t.y < 65536) : readO (tmB t) = if rightB t = true ∨ t = Tm.zero then some t else none := by
  unfold readO
  rw [tmR_tmB t hy]
  have h1 : (tmB t).length = 16 := rfl
  have h2 : ((tmB t).drop 7).all (· == 0) = true := rfl
  by_cases h : rightB t = true ∨ t = Tm.zero
  · rw [if_pos ⟨h1, h2, h⟩, if_pos h]
  · rw [if_neg (fun x => h x.2.2), if_neg h]
/-- Sixteen bytes whose last nine are noughts are those of their moment. -/
theorem tmB_tmR (bs : List UInt8) (h1 : bs.length = 16) (h2 : (bs.drop 7).all (· == 0) = true) : tmB (tmR bs) = bs := by
  match bs, h1 with
  | [b0, b1, b2, b3, b4, b5, b6, b7, b8, b9, b10, b11, b12, b13, b14, b15], _ =>
    simp at h2
    obtain ⟨rfl, rfl, rfl, rfl, rfl, rfl, rfl, rfl, rfl⟩ := h2
    have e : tmR [b0, b1, b2, b3, b4, b5, b6, 0, 0, 0, 0, 0, 0, 0, 0, 0] = ⟨leN [b0, b1], b2, b3, b4, b5, b6⟩ := rfl
    rw [e, tmB_eq, leN_two]
    have p0 := b0.toNat_lt
    have p1 := b1.toNat_lt
    have q0 : nb (b0.toNat + 256 * b1.toNat) 0 = b0 := UInt8.toNat_inj.1 (by rw [nb0]; omega)
    have q1 : nb (b0.toNat + 256 * b1.toNat) 1 = b1 := UInt8.toNat_inj.1 (by rw [nb1]; omega)
    simp only
    rw [q0, q1]
theorem readO_some {bs : List UInt8} {u : Tm} (h : readO bs = some u) : bs.length = 16 ∧ (rightB u = true ∨ u = Tm.zero) ∧ tmB u = bs ∧ u.y < 65536 := by
  unfold readO at h
  split at h
  · rename_i hc
    injection h with h
    subst h
    refine ⟨hc.1, hc.2.2, tmB_tmR bs hc.1 hc.2.1, ?_⟩
    have := leN_lt (cut bs 0 2)
    rw [cut_len _ _ _ (by omega)] at this
    exact this
  · cases h
theorem readO_set (t : Tm) (k : Nat) (hk : k < 9) (x : UInt8) (hx : x ≠ 0) : readO ((tmB t).set (7 + k) x) = none := by
  unfold readO
  rw [if_neg]
  rintro ⟨_, h2, _⟩
  have hl : k < (((tmB t).set (7 + k) x).drop 7).length := by simp [tmB_len]; omega
  have h3 := none_bad h2 k hl
  have hl2 : 7 + k < (tmB t).length := by rw [tmB_len]; omega
  rw [List.getElem?_drop, List.getElem?_set, if_pos rfl, if_pos hl2] at h3
  injection h3 with h3
  exact hx h3
theorem set_same0 (t : Tm) (k : Nat) (hk : k < 9) : (tmB t).set (7 + k) 0 = tmB t := by
  match k, hk with
  | 0, _ => rfl
  | 1, _ => rfl
  | 2, _ => rfl
  | 3, _ => rfl
  | 4, _ => rfl
  | 5, _ => rfl
  | 6, _ => rfl
  | 7, _ => rfl
  | 8, _ => rfl
end Go.Proofs.YtfampefflkkckaaDoor
