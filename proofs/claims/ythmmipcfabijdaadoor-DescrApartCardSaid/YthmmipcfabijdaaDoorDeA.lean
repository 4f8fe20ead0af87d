/-
  descr: what a signed value's bytes are, and what bytes say, as plain mathematics.
-/
import Derived.Test.YthmmipcfabijdaaDoorStN
import Derived.Test.YthmmipcfabijdaaDoorOctB2
import Derived.Test.YthmmipcfabijdaaDoorOctW
namespace Go.Proofs.YthmmipcfabijdaaDoor
open Go.RowKit Go
set_option linter.unusedVariables false
set_option maxRecDepth 100000
def marksL : List UInt8 := [0, 2, 241, 14, 157, 210, 175, 74, 223, 104, 238, 73, 138, 169, 52, 125, 55, 86, 101, 167]
/-- A signed value's bytes. -/
def dW (t : Tm) (bl da : List UInt8) : List UInt8 := tmB t ++ leB (24 + bl.length) 4 ++ marksL ++ bl ++ da
def fitB (n : Nat) : Bool := decide (1 ≤ n ∧ n ≤ 65536)
/-- What bytes say. -/
def dR (bs : List UInt8) : Option (Tm × List UInt8 × List UInt8) :=
  if bs.length < 40 then none else
  match readO (cut bs 0 16) with
  | none => none
  | some t => if t = Tm.zero then none else
    if cut bs 20 20 = marksL ∧ 25 ≤ leN (cut bs 16 4) ∧ leN (cut bs 16 4) ≤ 65560 ∧ 16 + leN (cut bs 16 4) ≤ bs.length then
      some (t, cut bs 40 (leN (cut bs 16 4) - 24), bs.drop (16 + leN (cut bs 16 4))) else none
theorem cut_mid {p q r : List UInt8} {a k : Nat} (hp : p.length = a) (hq : q.length = k) : cut (p ++ q ++ r) a k = q := by
  unfold cut
  rw [List.append_assoc, ← hp, List.drop_left, ← hq, List.take_left]
theorem cut_glue (bs : List UInt8) (a k : Nat) : cut bs a k ++ bs.drop (a + k) = bs.drop a := by
  unfold cut
  rw [← List.drop_drop, List.take_append_drop]
theorem marks_len : marksL.length = 20 := rfl
theorem leN_leB4 (a : Nat) (ha : a < 4294967296) : leN (leB a 4) = a := by
  have h : ∀ i, (nb a i).toNat = a / 256 ^ i % 256 := fun i => by unfold nb; simp
  show leN [nb a 0, nb a 1, nb a 2, nb a 3] = a
  simp only [leN, h]
  simp
  omega
theorem nb_u8 (x i : Nat) : (nb x i).toNat = x / 256 ^ i % 256 := by unfold nb; simp
theorem leB4_leN (b0 b1 b2 b3 : UInt8) : leB (leN [b0, b1, b2, b3]) 4 = [b0, b1, b2, b3] := by
  have p0 := b0.toNat_lt
  have p1 := b1.toNat_lt
  have p2 := b2.toNat_lt
  have p3 := b3.toNat_lt
  show [nb _ 0, nb _ 1, nb _ 2, nb _ 3] = _
  have e : leN [b0, b1, b2, b3] = b0.toNat + 256 * (b1.toNat + 256 * (b2.toNat + 256 * (b3.toNat))) := by simp [leN]
  rw [e]
  have q0 : nb (b0.toNat + 256 * (b1.toNat + 256 * (b2.toNat + 256 * (b3.toNat)))) 0 = b0 := UInt8.toNat_inj.1 (by rw [nb_u8]; first | (simp; done) | (simp; omega))
  have q1 : nb (b0.toNat + 256 * (b1.toNat + 256 * (b2.toNat + 256 * (b3.toNat)))) 1 = b1 := UInt8.toNat_inj.1 (by rw [nb_u8]; first | (simp; done) | (simp; omega))
  have q2 : nb (b0.toNat + 256 * (b1.toNat + 256 * (b2.toNat + 256 * (b3.toNat)))) 2 = b2 := UInt8.toNat_inj.1 (by rw [nb_u8]; first | (simp; done) | (simp; omega))
  have q3 : nb (b0.toNat + 256 * (b1.toNat + 256 * (b2.toNat + 256 * (b3.toNat)))) 3 = b3 := UInt8.toNat_inj.1 (by rw [nb_u8]; first | (simp; done) | (simp; omega))
  rw [q0, q1, q2, q3]
theorem leB_leN4 {l : List UInt8} (h : l.length = 4) : leB (leN l) 4 = l := by
  match l, h with
  | [a, b, c, d], _ => exact leB4_leN a b c d
theorem dW_len (t : Tm) (bl da : List UInt8) : (dW t bl da).length = 40 + bl.length + da.length := by
  unfold dW
  simp only [List.length_append, tmB_len, leB_len, marks_len]
theorem dW_0 (t : Tm) (bl da : List UInt8) : cut (dW t bl da) 0 16 = tmB t := by
  unfold dW
  rw [show tmB t ++ leB (24 + bl.length) 4 ++ marksL ++ bl ++ da = [] ++ tmB t ++ (leB (24 + bl.length) 4 ++ marksL ++ bl ++ da) by simp]
  exact cut_mid rfl (tmB_len t)
theorem dW_16 (t : Tm) (bl da : List UInt8) : cut (dW t bl da) 16 4 = leB (24 + bl.length) 4 := by
  unfold dW
  rw [show tmB t ++ leB (24 + bl.length) 4 ++ marksL ++ bl ++ da = tmB t ++ leB (24 + bl.length) 4 ++ (marksL ++ bl ++ da) by simp]
  exact cut_mid (tmB_len t) (leB_len _ _)
theorem dW_20 (t : Tm) (bl da : List UInt8) : cut (dW t bl da) 20 20 = marksL := by
  unfold dW
  rw [show tmB t ++ leB (24 + bl.length) 4 ++ marksL ++ bl ++ da = (tmB t ++ leB (24 + bl.length) 4) ++ marksL ++ (bl ++ da) by simp]
  exact cut_mid (by simp only [List.length_append, tmB_len, leB_len]) rfl
theorem dW_40 (t : Tm) (bl da : List UInt8) : cut (dW t bl da) 40 bl.length = bl := by
  unfold dW
  exact cut_mid (by simp only [List.length_append, tmB_len, leB_len, marks_len]) rfl
theorem dW_end (t : Tm) (bl da : List UInt8) : (dW t bl da).drop (40 + bl.length) = da := by
  unfold dW
  rw [show 40 + bl.length = (tmB t ++ leB (24 + bl.length) 4 ++ marksL ++ bl).length by simp only [List.length_append, tmB_len, leB_len, marks_len], List.drop_left]
theorem ne_zero {t : Tm} (h : rightB t = true) : t ≠ Tm.zero := fun e => by rw [e, right_zero] at h; cases h
theorem dR_dW {t : Tm} {bl : List UInt8} (da : List UInt8) (hr : rightB t = true) (h1 : 1 ≤ bl.length) (h2 : bl.length ≤ 65536) : dR (dW t bl da) = some (t, bl, da) := by
  have hy := right_year hr
  have hl := dW_len t bl da
  have e4 := leN_leB4 (24 + bl.length) (by omega)
  unfold dR
  rw [if_neg (by omega), dW_0, readO_tmB t (by omega), if_pos (.inl hr)]
  simp only
  rw [if_neg (ne_zero hr), dW_20, dW_16, e4, if_pos ⟨rfl, by omega, by omega, by omega⟩, show 24 + bl.length - 24 = bl.length by omega, dW_40, show 16 + (24 + bl.length) = 40 + bl.length by omega, dW_end]
theorem dR_some {bs : List UInt8} {t : Tm} {bl da : List UInt8} (h : dR bs = some (t, bl, da)) : rightB t = true ∧ 1 ≤ bl.length ∧ bl.length ≤ 65536 ∧ dW t bl da = bs ∧ t.y < 65536 := by
  unfold dR at h
  by_cases h40 : bs.length < 40
  · rw [if_pos h40] at h; cases h
  rw [if_neg h40] at h
  cases hq : readO (cut bs 0 16) with
  | none => rw [hq] at h; cases h
  | some u =>
    rw [hq] at h
    simp only at h
    obtain ⟨_, r1, r2, r3⟩ := readO_some hq
    by_cases hz : u = Tm.zero
    · rw [if_pos hz] at h; cases h
    rw [if_neg hz] at h
    by_cases hc : cut bs 20 20 = marksL ∧ 25 ≤ leN (cut bs 16 4) ∧ leN (cut bs 16 4) ≤ 65560 ∧ 16 + leN (cut bs 16 4) ≤ bs.length
    · rw [if_pos hc] at h
      obtain ⟨c1, c2, c3, c4⟩ := hc
      injection h with h
      injection h with ha h
      injection h with hb hd
      have hl : bl.length = leN (cut bs 16 4) - 24 := by rw [← hb]; exact cut_len _ _ _ (by omega)
      have g0 := cut_glue bs 0 16
      have g1 := cut_glue bs 16 4
      have g2 := cut_glue bs 20 20
      have g3 := cut_glue bs 40 (leN (cut bs 16 4) - 24)
      rw [show 40 + (leN (cut bs 16 4) - 24) = 16 + leN (cut bs 16 4) by omega] at g3
      refine ⟨by rw [← ha]; exact r1.resolve_right hz, by omega, by omega, ?_, by rw [← ha]; exact r3⟩
      unfold dW
      rw [← ha, r2, hl, show 24 + (leN (cut bs 16 4) - 24) = leN (cut bs 16 4) by omega, leB_leN4 (cut_len _ _ _ (by omega)), ← c1, ← hb, ← hd]
      simp only [List.append_assoc]
      rw [g3, g2, g1, g0]
      rfl
    · rw [if_neg hc] at h; cases h
theorem dW_take (t : Tm) (bl da : List UInt8) (n : Nat) (hn : 40 + bl.length ≤ n) : (dW t bl da).take n = dW t bl (da.take (n - 40 - bl.length)) := by
  unfold dW
  have hl : (tmB t ++ leB (24 + bl.length) 4 ++ marksL ++ bl).length = 40 + bl.length := by simp only [List.length_append, tmB_len, leB_len, marks_len]
  rw [List.take_append, List.take_of_length_le (by omega), hl, show n - (40 + bl.length) = n - 40 - bl.length by omega]
theorem cut_take (bs : List UInt8) (j a k : Nat) (h : a + k ≤ j) : cut (bs.take j) a k = cut bs a k := by
  unfold cut
  rw [List.drop_take, List.take_take, Nat.min_eq_left (by omega)]
theorem dR_cut {t : Tm} {bl : List UInt8} (da : List UInt8) (h2 : bl.length ≤ 65536) (n : Nat) (hn : n < 40 + bl.length) : dR ((dW t bl da).take n) = none := by
  have hl : ((dW t bl da).take n).length = n := by rw [List.length_take, dW_len]; omega
  have e4 := leN_leB4 (24 + bl.length) (by omega)
  unfold dR
  by_cases h40 : n < 40
  · rw [if_pos (by omega)]
  rw [if_neg (by omega), cut_take _ _ _ _ (by omega), cut_take _ _ _ _ (by omega), cut_take _ _ _ _ (by omega), dW_16, e4]
  cases hq : readO (cut (dW t bl da) 0 16) with
  | none => rfl
  | some u =>
    simp only
    by_cases hz : u = Tm.zero
    · rw [if_pos hz]
    rw [if_neg hz, if_neg (fun h => by have := h.2.2.2; omega)]
theorem dR_turned {t : Tm} {bl : List UInt8} (da : List UInt8) (k : Nat) (hk : k < 20) (x : UInt8) (hx : marksL[k]? ≠ some x) : dR ((dW t bl da).set (20 + k) x) = none := by
  have e : (dW t bl da).set (20 + k) x = (tmB t ++ leB (24 + bl.length) 4) ++ marksL.set k x ++ (bl ++ da) := by
    unfold dW
    have hl : (tmB t ++ leB (24 + bl.length) 4).length = 20 := by simp only [List.length_append, tmB_len, leB_len]
    rw [show tmB t ++ leB (24 + bl.length) 4 ++ marksL ++ bl ++ da = (tmB t ++ leB (24 + bl.length) 4) ++ (marksL ++ (bl ++ da)) by simp only [List.append_assoc], List.set_append_right _ _ (by omega), hl, show 20 + k - 20 = k by omega, List.set_append_left _ _ (by rw [marks_len]; exact hk), ← List.append_assoc]
  have hc : cut ((dW t bl da).set (20 + k) x) 20 20 = marksL.set k x := by
    rw [e]
    exact cut_mid (by simp only [List.length_append, tmB_len, leB_len]) (by rw [List.length_set]; rfl)
  have hne : marksL.set k x ≠ marksL := fun h => by
    have h9 := congrArg (fun l : List UInt8 => l[k]?) h
    simp only [List.getElem?_set_self (show k < marksL.length by rw [marks_len]; exact hk)] at h9
    exact hx h9.symm
  unfold dR
  rw [hc]
  by_cases h40 : ((dW t bl da).set (20 + k) x).length < 40
  · rw [if_pos h40]
  rw [if_neg h40]
  cases readO (cut ((dW t bl da).set (20 + k) x) 0 16) with
  | none => rfl
  | some u =>
    simp only
    by_cases hz : u = Tm.zero
    · rw [if_pos hz]
    rw [if_neg hz, if_neg (fun h => hne h.1)]
/-- What is signed. -/
def textL (nm g : List UInt8) (a : Nat) (t : Tm) (da : List UInt8) : List UInt8 := wideS nm ++ g ++ leB a 4 ++ tmB t ++ da
theorem widen_inj : ∀ {a b : List UInt8}, a.length = b.length → widen a = widen b → a = b
  | [], [], _, _ => rfl
  | p :: a, q :: b, hl, h => by
    have h1 : p :: 0 :: widen a = q :: 0 :: widen b := h
    injection h1 with e1 h1
    injection h1 with _ h1
    rw [e1, widen_inj (by simpa using hl) h1]
theorem text_same {nm nm' g g' : List UInt8} {a a' : Nat} {t t' : Tm} {da da' : List UInt8} (hn : nm.all letter = true) (hn' : nm'.all letter = true) (hl : nm.length = nm'.length) (hg : g.length = 16) (hg' : g'.length = 16) (ha : a < 4294967296) (ha' : a' < 4294967296) (ht : t.y < 65536) (ht' : t'.y < 65536) :
    (textL nm g a t da = textL nm' g' a' t' da') = (nm = nm' ∧ g = g' ∧ a = a' ∧ t = t' ∧ da = da') := by
  refine propext ⟨fun h => ?_, fun ⟨h1, h2, h3, h4, h5⟩ => by rw [h1, h2, h3, h4, h5]⟩
  unfold textL wideS at h
  rw [if_pos hn, if_pos hn'] at h
  simp only [List.append_assoc] at h
  obtain ⟨h1, h⟩ := List.append_inj h (by rw [widen_len, widen_len, hl])
  obtain ⟨h2, h⟩ := List.append_inj h (by rw [hg, hg'])
  obtain ⟨h3, h⟩ := List.append_inj h (by rw [leB_len, leB_len])
  obtain ⟨h4, h5⟩ := List.append_inj h (by rw [tmB_len, tmB_len])
  refine ⟨widen_inj hl h1, h2, ?_, ?_, h5⟩
  · rw [← leN_leB4 a ha, h3, leN_leB4 a' ha']
  · rw [← tmR_tmB t ht, h4, tmR_tmB t' ht']
end Go.Proofs.YthmmipcfabijdaaDoor
