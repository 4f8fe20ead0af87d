/-
  pe: what the parts of an image are, in plain words.
-/
import Derived.Test.YtjfpiidofbjdhaaDoorPeJ
namespace Go.Proofs.YtjfpiidofbjdhaaDoor
open Go.RowKit Go
set_option linter.unusedVariables false
def sumS (l : List (Nat × Nat)) : Nat := (l.map (·.2)).sum
theorem chain_parts : ∀ (l : List (Nat × Nat)) (e : Nat), (chainR l e).1 = true → (chainR l e).2 = e + sumS l ∧ (∀ x ∈ l, e ≤ x.1 ∧ x.1 + x.2 ≤ e + sumS l) ∧ l.Pairwise (fun a b => a.1 + a.2 ≤ b.1)
  | [], e, _ => ⟨rfl, (fun x hx => by cases hx), List.Pairwise.nil⟩
  | x :: r, e, h => by
    simp only [chainR, Bool.and_eq_true, decide_eq_true_eq] at h
    obtain ⟨h1, h2⟩ := h
    obtain ⟨i1, i2, i3⟩ := chain_parts r (x.1 + x.2) h2
    have hs : sumS (x :: r) = x.2 + sumS r := by simp [sumS]
    refine ⟨by simp only [chainR]; rw [i1, hs]; omega, fun y hy => ?_, List.Pairwise.cons (fun y hy => (i2 y hy).1) i3⟩
    rcases List.mem_cons.1 hy with rfl | hy
    · rw [hs]; omega
    · have := i2 y hy; rw [hs]; omega
theorem sum_perm {l l' : List (Nat × Nat)} (h : l'.Perm l) : sumS l' = sumS l := (h.map _).sum_nat
/-- The sections of an image that is one. -/
theorem secs_parts (bs : List UInt8) (h : secB bs = true) : (∀ x ∈ secsQ bs, 0 < x.2 ∧ hdrQ bs ≤ x.1 ∧ x.1 + x.2 ≤ hdrQ bs + sumS (secsQ bs)) ∧ (secsQ bs).Pairwise (fun a b => a.1 + a.2 ≤ b.1 ∨ b.1 + b.2 ≤ a.1) ∧ endQ bs = hdrQ bs + sumS (secsQ bs) ∧ endQ bs ≤ bs.length ∧ (secsQ bs).length ≤ cntQ bs := by
  unfold secB at h
  simp only [Bool.and_eq_true, decide_eq_true_eq] at h
  obtain ⟨⟨_, h2⟩, h3⟩ := h
  have h2' := h2
  rw [chainS_eq] at h2'
  obtain ⟨c1, c2, c3⟩ := chain_parts _ _ h2'
  have hp := riseL_perm (secsQ bs)
  have he : endQ bs = hdrQ bs + sumS (secsQ bs) := by unfold endQ; rw [chainS_eq, c1, sum_perm hp]
  refine ⟨fun x hx => ⟨?_, ?_⟩, ?_, he, h3, ?_⟩
  · unfold secsQ secN at hx
    have := (List.mem_filter.1 hx).2
    simpa using this
  · have := c2 x (hp.mem_iff.2 hx)
    rw [sum_perm hp] at this
    exact this
  · exact (hp.pairwise_iff (fun {a b} h => h.symm)).1 (c3.imp (fun h => Or.inl h))
  · unfold secsQ secN
    have := List.length_filter_le (fun s : Nat × Nat => decide (0 < s.2)) ((List.range (cntQ bs)).map (secAt bs (tabQ bs)))
    simpa using this
theorem rows_some (bs : List UInt8) (a : Nat) (h : a < bs.length) {l : List (List UInt8)} (hr : rowsQ bs a = some l) : 0 < l.length := by
  rw [rowsQ, dif_pos h] at hr
  split at hr
  · split at hr
    · cases hq : rowsQ bs (a + padQ bs a) with
      | none => rw [hq] at hr; cases hr
      | some t => rw [hq] at hr; injection hr with hr; subst hr; simp
    · cases hr
  · cases hr
/-- What an image is. -/
theorem im_parts (bs : List UInt8) (im : Im) (h : parseQ bs = .inr im) : secB bs = true ∧ im.secs = secsQ bs ∧ im.hdr = hdrQ bs ∧ cntQ bs ≤ 96 ∧ 64 ≤ im.check ∧ im.check + 4 ≤ im.dir ∧ im.dir + 8 ≤ im.hdr ∧ im.hdr ≤ bs.length ∧ bs.length ≤ 16777216 ∧ im.sigs.length ≤ 8 ∧
    ((im.length = 0 ∧ im.table = 0 ∧ im.sigs = []) ∨ (0 < im.length ∧ endQ bs ≤ im.table ∧ im.table % 8 = 0 ∧ im.table + im.length = bs.length ∧ 0 < im.sigs.length)) := by
  unfold parseQ at h
  split at h
  · cases h
  · rename_i hbig
    split at h
    · cases h
    · rename_i hgood
      have hg : (hdB bs && secB bs && dirB bs) = true := by
        cases h9 : (hdB bs && secB bs && dirB bs) with
        | true => rfl
        | false => exact absurd h9 hgood
      simp only [Bool.and_eq_true] at hg
      obtain ⟨⟨g1, g2⟩, g3⟩ := hg
      have HD : cntQ bs ≤ 96 ∧ 64 ≤ optQ bs + 64 ∧ optQ bs + 64 + 4 ≤ dirQ bs ∧ dirQ bs + 8 ≤ hdrQ bs ∧ hdrQ bs ≤ bs.length := by
        unfold hdB at g1
        simp only [Bool.and_eq_true, Bool.or_eq_true, decide_eq_true_eq] at g1
        obtain ⟨⟨⟨⟨⟨⟨⟨⟨_, ⟨_, g12⟩⟩, _⟩, _⟩, _⟩, _⟩, ⟨g7, g8⟩⟩, _⟩, ⟨g10, g11⟩⟩ := g1
        unfold dirQ tabQ at *
        have hd : dirsQ bs = optQ bs + 96 ∨ dirsQ bs = optQ bs + 112 := by unfold dirsQ dirsOf; split <;> simp
        omega
      split at h
      · rename_i hz
        injection h with h
        subst h
        exact ⟨g2, rfl, rfl, HD.1, HD.2.1, HD.2.2.1, HD.2.2.2.1, HD.2.2.2.2, by omega, by simp [imOf], .inl ⟨rfl, rfl, rfl⟩⟩
      · split at h
        · cases h
        · rename_i hs
          have hs' : sgB bs.length (ctQ bs) (clQ bs) (endQ bs) = true := by
            cases h9 : sgB bs.length (ctQ bs) (clQ bs) (endQ bs) with
            | true => rfl
            | false => exact absurd h9 hs
          unfold sgB at hs'
          simp only [Bool.and_eq_true, decide_eq_true_eq] at hs'
          obtain ⟨⟨⟨s1, s2⟩, s3⟩, s4⟩ := hs'
          split at h
          · cases h
          · rename_i l hl
            split at h
            · cases h
            · injection h with h
              subst h
              have hp := rows_some bs (ctQ bs) (by omega) hl
              exact ⟨g2, rfl, rfl, HD.1, HD.2.1, HD.2.2.1, HD.2.2.2.1, HD.2.2.2.2, by omega, by simp only [imOf]; omega, .inr ⟨s1, s3, s2, s4, hp⟩⟩
end Go.Proofs.YtjfpiidofbjdhaaDoor
