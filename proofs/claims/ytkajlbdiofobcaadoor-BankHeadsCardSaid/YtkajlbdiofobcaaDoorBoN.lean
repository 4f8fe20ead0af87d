/-
  bank: Format and Ready with the power armed, as plain data.
-/
import Derived.Test.YtkajlbdiofobcaaDoorBo3
namespace Go.Proofs.YtkajlbdiofobcaaDoor
open Go.RowKit Go
set_option linter.unusedVariables false
set_option linter.unusedSimpArgs false
set_option maxRecDepth 100000
/-- Erasing sectors, wherever the power goes. -/
theorem erAll_out : ∀ (C F : Nat) (S : FS) (A X B : List UInt8), S.off = false → S.bs = A ++ X ++ B → A.length = F * S.s → X.length = C * S.s → 1 ≤ S.s →
    ((erAll C F S).2 = 0 ∧ (erAll C F S).1 = { S with left := S.left - C, wr := S.wr + C, bs := A ++ List.replicate (C * S.s) 255 ++ B }) ∨
    ((erAll C F S).2 = 6 ∧ (erAll C F S).1.off = true ∧ (erAll C F S).1.n = S.n ∧ (erAll C F S).1.s = S.s ∧ ∃ X', X'.length = X.length ∧ (erAll C F S).1.bs = A ++ X' ++ B ∧ (X' = X ∨ X'[0]? = some 255))
  | 0, F, S, A, X, B, h1, h3, h4, h5, h6 => by
    have hX : X = [] := List.length_eq_zero_iff.1 (by omega)
    subst hX
    obtain ⟨n, s, bs, off, left, part, wr⟩ := S
    simp only at h3
    subst h3
    left
    simp [erAll]
  | C + 1, F, S, A, X, B, h1, h3, h4, h5, h6 => by
    obtain ⟨n, s, bs, off, left, part, wr⟩ := S
    simp only at h1 h3 h4 h5 h6
    subst h1 h3
    have hs : s ≤ X.length := by rw [h5, Nat.succ_mul]; omega
    have hsp : ∀ p, p ≤ s → splice (A ++ X ++ B) (F * s) (List.replicate p 255) = A ++ (List.replicate p 255 ++ X.drop p) ++ B := fun p hp => by
      have h9 := splice_app A (X.take p) (X.drop p ++ B) (List.replicate p 255) (F * s) h4 (by rw [List.length_replicate, List.length_take]; omega)
      have h8 : A ++ X.take p ++ (X.drop p ++ B) = A ++ X ++ B := by
        simp only [List.append_assoc]
        rw [← List.append_assoc (X.take p), List.take_append_drop]
      rw [h8] at h9
      rw [h9]
      simp
    by_cases hl : left = 1
    · subst hl
      have her : erR F ⟨n, s, A ++ X ++ B, false, 1, part, wr⟩ = (⟨n, s, A ++ (List.replicate (min part s) 255 ++ X.drop (min part s)) ++ B, true, 0, part, wr⟩, 6) := by
        unfold erR FS.er
        simp only [Bool.false_eq_true, if_false, if_true]
        rw [hsp (min part s) (Nat.min_le_right _ _)]
      right
      have h0 : erAll (C + 1) F ⟨n, s, A ++ X ++ B, false, 1, part, wr⟩ = (⟨n, s, A ++ (List.replicate (min part s) 255 ++ X.drop (min part s)) ++ B, true, 0, part, wr⟩, 6) := by
        rw [erAll, her]
        rfl
      rw [h0]
      refine ⟨rfl, rfl, rfl, rfl, _, ?_, rfl, ?_⟩
      · rw [List.length_append, List.length_replicate, List.length_drop]
        have := Nat.min_le_right part s
        omega
      · rcases Nat.eq_zero_or_pos (min part s) with hm | hm
        · left; rw [hm]; rfl
        · right
          rw [List.getElem?_append_left (by rw [List.length_replicate]; exact hm), List.getElem?_replicate, if_pos hm]
    · have her : erR F ⟨n, s, A ++ X ++ B, false, left, part, wr⟩ = (⟨n, s, A ++ List.replicate s 255 ++ (X.drop s ++ B), false, left - 1, part, wr + 1⟩, 0) := by
        unfold erR FS.er
        simp only [Bool.false_eq_true, if_false]
        rw [if_neg hl, if_neg hl, hsp s (Nat.le_refl _)]
        simp
      have ih := erAll_out C (F + 1) ⟨n, s, A ++ List.replicate s 255 ++ (X.drop s ++ B), false, left - 1, part, wr + 1⟩ (A ++ List.replicate s 255) (X.drop s) B rfl (by simp) (by simp only [List.length_append, List.length_replicate]; rw [h4, Nat.succ_mul]) (by rw [List.length_drop, h5, Nat.succ_mul]; simp only; omega) h6
      have h0 : erAll (C + 1) F ⟨n, s, A ++ X ++ B, false, left, part, wr⟩ = erAll C (F + 1) ⟨n, s, A ++ List.replicate s 255 ++ (X.drop s ++ B), false, left - 1, part, wr + 1⟩ := by
        rw [erAll, her]
        rfl
      rw [h0]
      rcases ih with ⟨h7, h8⟩ | ⟨h7, h8, h9, h10, X', h11, h12, _⟩
      · left
        refine ⟨h7, ?_⟩
        rw [h8]
        simp only [FS.mk.injEq, and_true, true_and]
        refine ⟨?_, by omega, by omega⟩
        rw [Nat.succ_mul, Nat.add_comm (C * s) s, ← List.replicate_append_replicate]
        simp
      · right
        refine ⟨h7, h8, h9, h10, List.replicate s 255 ++ X', ?_, ?_, .inr ?_⟩
        · rw [List.length_append, List.length_replicate, h11, List.length_drop]; omega
        · rw [h12]; simp
        · rw [List.getElem?_append_left (by rw [List.length_replicate]; exact h6), List.getElem?_replicate, if_pos (by omega)]
theorem erAll_kept : ∀ (C F : Nat) (S : FS), (erAll C F S).1.n = S.n ∧ (erAll C F S).1.s = S.s ∧ (erAll C F S).1.wr ≤ S.wr + C
  | 0, F, S => ⟨rfl, rfl, Nat.le_refl _⟩
  | C + 1, F, S => by
    obtain ⟨a1, a2, a3, _⟩ := erR_kept F S
    rw [erAll]
    split
    · obtain ⟨b1, b2, b3⟩ := erAll_kept C (F + 1) (erR F S).1
      exact ⟨b1.trans a1, b2.trans a2, by omega⟩
    · exact ⟨a1, a2, by omega⟩
theorem fmtQ_kept (gen F C : Nat) (S : FS) : (fmtQ gen F C S).1.n = S.n ∧ (fmtQ gen F C S).1.s = S.s ∧ (fmtQ gen F C S).1.wr ≤ S.wr + C + 12 := by
  obtain ⟨a1, a2, a3⟩ := erAll_kept C F S
  obtain ⟨b1, b2, b3⟩ := progR_kept (headG gen) (F * S.s) (erAll C F S).1
  rw [headG_len] at b3
  unfold fmtQ
  split
  · exact ⟨b1.trans a1, b2.trans a2, by omega⟩
  · exact ⟨a1, a2, by omega⟩
theorem fmtQ_wr (gen F C : Nat) (S : FS) : (fmtQ gen F C S).1.wr ≤ S.wr + C + 12 := (fmtQ_kept gen F C S).2.2
/-- Where a head cannot be ready. -/
def Cut (X Y : List UInt8) : Prop := Y = X ∨ Y[0]? = some 255 ∨ Y[12]? = some 255
theorem cut_head {X : List UInt8} (hl : 16 ≤ X.length) (h : X[0]? = some 255 ∨ X[12]? = some 255) : (headQ X).2 = false := by
  unfold headQ
  split
  · rename_i he
    rcases h with h | h
    · have h1 : (X.take 12)[0]? = X[0]? := by rw [List.getElem?_take, if_pos (by omega)]
      rw [← he, h] at h1
      have h2 : (headG (leN (cut X 4 4)))[0]? = some 76 := rfl
      rw [h2] at h1
      exact absurd h1 (by decide)
    · simp only
      rw [List.getD_eq_getElem?_getD, h]
      rfl
  · rfl
theorem fmt_out (gen : Nat) (S : FS) (h1 : S.off = false) (h2 : S.n = 8) (h3 : S.s = 256) (h4 : S.bs.length = 2048) :
    ((fmtQ gen 0 8 S).2 = 0 ∧ (fmtQ gen 0 8 S).1.off = false ∧ (fmtQ gen 0 8 S).1.n = 8 ∧ (fmtQ gen 0 8 S).1.s = 256 ∧ (fmtQ gen 0 8 S).1.bs = bankL (headG gen ++ [255, 255, 255, 255]) [] 2032) ∨
    ((fmtQ gen 0 8 S).2 = 6 ∧ (fmtQ gen 0 8 S).1.off = true ∧ (fmtQ gen 0 8 S).1.n = 8 ∧ (fmtQ gen 0 8 S).1.s = 256 ∧ Cut S.bs (fmtQ gen 0 8 S).1.bs) := by
  have hl := headG_len gen
  obtain ⟨n, s, bs, off, left, part, wr⟩ := S
  simp only at h1 h2 h3 h4
  subst h1 h2 h3
  unfold fmtQ
  rcases erAll_out 8 0 ⟨8, 256, bs, false, left, part, wr⟩ [] bs [] rfl (by simp) (by simp) (show bs.length = 8 * 256 from h4) (show 1 ≤ 256 by decide) with ⟨e1, e2⟩ | ⟨e1, e2, e3, e4, X', e5, e6, e7⟩
  · rw [if_pos e1, e2]
    unfold progR
    simp only [Bool.false_eq_true, if_false]
    rw [progQ_eq]
    split
    · left
      refine ⟨rfl, rfl, rfl, rfl, ?_⟩
      simp only
      have h7 := andAt_free (headG gen) [] [] 2048 (by omega)
      simp only [List.nil_append, List.append_nil, List.length_nil] at h7 ⊢
      rw [show 8 * 256 = 2048 from rfl, show 0 * 256 = 0 from rfl, h7, hl]
      unfold bankL layAll
      rw [show 2048 - 12 = 4 + 2032 from rfl, ← List.replicate_append_replicate]
      simp [List.replicate_succ]
    · right
      refine ⟨rfl, rfl, rfl, rfl, .inr (.inr ?_)⟩
      simp only
      rw [andAt_get, if_neg (by rw [List.length_take]; omega)]
      simp only [List.nil_append, List.append_nil]
      rw [List.getElem?_replicate, if_pos (by decide)]
  · rw [if_neg (by rw [e1]; decide)]
    right
    refine ⟨e1, e2, e3, e4, ?_⟩
    rw [e6]
    simp only [List.nil_append, List.append_nil]
    rcases e7 with e7 | e7
    · exact .inl e7
    · exact .inr (.inl e7)
theorem ready_out (gen : Nat) (T : FS) (h1 : T.off = false) (h2 : T.n = 8) (h3 : T.s = 256) (h4 : T.bs = bankL (headG gen ++ [255, 255, 255, 255]) [] 2032) :
    ((progR [254] (0 * T.s + 12) T).2 = 0 ∧ (progR [254] (0 * T.s + 12) T).1.off = false ∧ (progR [254] (0 * T.s + 12) T).1.n = 8 ∧ (progR [254] (0 * T.s + 12) T).1.s = 256 ∧ (progR [254] (0 * T.s + 12) T).1.bs = bankL (hdR gen) [] 2032) ∨
    ((progR [254] (0 * T.s + 12) T).2 = 6 ∧ (progR [254] (0 * T.s + 12) T).1.off = true ∧ (progR [254] (0 * T.s + 12) T).1.n = 8 ∧ (progR [254] (0 * T.s + 12) T).1.s = 256 ∧ (progR [254] (0 * T.s + 12) T).1.bs[12]? = some 255) := by
  have hl := headG_len gen
  unfold progR
  simp only [h1, Bool.false_eq_true, if_false]
  rw [progQ_eq]
  have hb : T.bs = headG gen ++ 255 :: ([255, 255, 255] ++ List.replicate 2032 255) := by rw [h4]; unfold bankL layAll; simp
  split
  · left
    refine ⟨rfl, h1, h2, h3, ?_⟩
    simp only
    rw [hb, Nat.zero_mul, Nat.zero_add, andAt_one' (headG gen) _ 255 254 12 hl.symm]
    rw [show (255 : UInt8) &&& 254 = 254 from rfl]
    unfold bankL hdR layAll
    simp
  · rename_i hno
    right
    refine ⟨rfl, rfl, h2, h3, ?_⟩
    simp only
    have : T.left - 1 = 0 := by simp only [List.length_cons, List.length_nil] at hno; omega
    rw [this, List.take_zero, andAt, hb, List.getElem?_append_right (by omega), hl]
    rfl
end Go.Proofs.YtkajlbdiofobcaaDoor
