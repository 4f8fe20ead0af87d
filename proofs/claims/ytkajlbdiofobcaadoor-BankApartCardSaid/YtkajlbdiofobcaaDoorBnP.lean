/-
  bank: Format and Ready while the power stays, as plain data.
-/
import Derived.Test.YtkajlbdiofobcaaDoorBnO
namespace Go.Proofs.YtkajlbdiofobcaaDoor
open Go.RowKit Go
set_option linter.unusedVariables false
set_option linter.unusedSimpArgs false
set_option maxRecDepth 100000
theorem splice_app (A Y B X : List UInt8) (o : Nat) (ho : A.length = o) (hl : X.length = Y.length) : splice (A ++ Y ++ B) o X = A ++ X ++ B := by
  subst ho
  unfold splice
  have h1 : (A ++ Y ++ B).take A.length = A := by rw [List.append_assoc]; exact List.take_left ..
  have h2 : (A ++ Y ++ B).drop (A.length + X.length) = B := by rw [hl, ← List.length_append]; exact List.drop_left ..
  rw [h1, h2, List.append_assoc]
theorem erAll_calm : ∀ (C F : Nat) (S : FS) (A X B : List UInt8), S.off = false → S.left = 0 → S.bs = A ++ X ++ B → A.length = F * S.s → X.length = C * S.s → erAll C F S = ({ S with wr := S.wr + C, bs := A ++ List.replicate (C * S.s) 255 ++ B }, 0)
  | 0, F, S, A, X, B, h1, h2, h3, h4, h5 => by
    have hX : X = [] := List.length_eq_zero_iff.1 (by omega)
    subst hX
    obtain ⟨n, s, bs, off, left, part, wr⟩ := S
    simp only at h3
    subst h3
    simp [erAll]
  | C + 1, F, S, A, X, B, h1, h2, h3, h4, h5 => by
    obtain ⟨n, s, bs, off, left, part, wr⟩ := S
    simp only at h1 h2 h3 h4 h5
    subst h1 h2 h3
    have hs : s ≤ X.length := by rw [h5, Nat.succ_mul]; omega
    have hXp : X = X.take s ++ X.drop s := (List.take_append_drop s X).symm
    have hYl : (X.take s).length = s := by rw [List.length_take]; omega
    have her : erR F ⟨n, s, A ++ X ++ B, false, 0, part, wr⟩ = (⟨n, s, A ++ List.replicate s 255 ++ (X.drop s ++ B), false, 0, part, wr + 1⟩, 0) := by
      unfold erR FS.er
      simp only [Bool.false_eq_true, if_false]
      rw [if_neg (by decide), if_neg (by decide)]
      have h9 := splice_app A (X.take s) (X.drop s ++ B) (List.replicate s 255) (F * s) h4 (by rw [List.length_replicate, hYl])
      have h8 : A ++ X.take s ++ (X.drop s ++ B) = A ++ X ++ B := by
        simp only [List.append_assoc]
        rw [← List.append_assoc (X.take s), List.take_append_drop]
      rw [h8] at h9
      rw [h9]
    have ih := erAll_calm C (F + 1) ⟨n, s, A ++ List.replicate s 255 ++ (X.drop s ++ B), false, 0, part, wr + 1⟩ (A ++ List.replicate s 255) (X.drop s) B rfl rfl (by simp) (by simp only [List.length_append, List.length_replicate]; rw [h4, Nat.succ_mul]) (by rw [List.length_drop, h5, Nat.succ_mul]; simp only; omega)
    rw [erAll, her]
    simp only [if_true]
    rw [ih]
    simp only [Prod.mk.injEq, FS.mk.injEq, and_true, true_and]
    refine ⟨?_, by omega⟩
    rw [Nat.succ_mul, Nat.add_comm (C * s) s, ← List.replicate_append_replicate]
    simp
/-- Format, while the power stays. -/
theorem fmt_calm (gen F C : Nat) (S : FS) (A X B : List UInt8) (h1 : S.off = false) (h2 : S.left = 0) (h3 : S.bs = A ++ X ++ B) (h4 : A.length = F * S.s) (h5 : X.length = C * S.s) (h6 : 16 ≤ C * S.s) :
    fmtQ gen F C S = ({ S with wr := S.wr + C + 12, bs := A ++ bankL (headG gen ++ [255, 255, 255, 255]) [] (C * S.s - 16) ++ B }, 0) := by
  unfold fmtQ
  rw [erAll_calm C F S A X B h1 h2 h3 h4 h5]
  obtain ⟨n, s, bs, off, left, part, wr⟩ := S
  simp only at h1 h2 h3 h4 h5 h6 ⊢
  subst h1 h2
  simp only [if_true]
  unfold progR
  simp only [Bool.false_eq_true, if_false]
  rw [progQ_eq, if_pos (.inl rfl)]
  simp only [Prod.mk.injEq, FS.mk.injEq, and_true, true_and]
  have hl := headG_len gen
  refine ⟨?_, by omega, by rw [hl]⟩
  have h7 := andAt_free (headG gen) A B (C * s) (by omega)
  rw [h4] at h7
  rw [h7, hl]
  unfold bankL layAll
  have e : C * s - 12 = 4 + (C * s - 16) := by omega
  rw [e, ← List.replicate_append_replicate]
  simp [List.replicate_succ]
/-- Ready, while the power stays. -/
theorem ready_calm (gen F : Nat) (S : FS) (A B : List UInt8) (rs : List RL) (k : Nat) (h1 : S.off = false) (h2 : S.left = 0) (h3 : S.bs = A ++ bankL (headG gen ++ [255, 255, 255, 255]) rs k ++ B) (h4 : A.length = F * S.s) :
    progR [254] (F * S.s + 12) S = ({ S with wr := S.wr + 1, bs := A ++ bankL (headG gen ++ [254, 255, 255, 255]) rs k ++ B }, 0) := by
  obtain ⟨n, s, bs, off, left, part, wr⟩ := S
  simp only at h1 h2 h3 h4 ⊢
  subst h1 h2 h3
  unfold progR
  simp only [Bool.false_eq_true, if_false]
  rw [progQ_eq, if_pos (.inl rfl)]
  simp only [Prod.mk.injEq, FS.mk.injEq, and_true, true_and]
  refine ⟨?_, by simp, by simp⟩
  have hl := headG_len gen
  have h7 := andAt_one' (A ++ headG gen) ([255, 255, 255] ++ layAll rs ++ List.replicate k 255 ++ B) 255 254 (F * s + 12) (by rw [List.length_append, hl, h4])
  unfold bankL
  have e1 : A ++ (headG gen ++ [255, 255, 255, 255] ++ layAll rs ++ List.replicate k 255) ++ B = A ++ headG gen ++ 255 :: ([255, 255, 255] ++ layAll rs ++ List.replicate k 255 ++ B) := by simp
  rw [e1, h7, show (255 : UInt8) &&& 254 = 254 from rfl]
  simp
end Go.Proofs.YtkajlbdiofobcaaDoor
