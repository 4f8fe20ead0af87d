/-
  bank: Format and Ready with the power armed, as plain data.
-/
import Derived.Test.YtkajlbdiofobcaaDoorBo3
namespace Go.Proofs.YtkajlbdiofobcaaDoor
open Go.RowKit Go
set_option linter.unusedVariables false
set_option linter.unusedSimpArgs false
set_option maxRecDepth 100000
/-- Erasing sectors, wherever the power goes. -/
theorem erAll_out : ∀ (C F : Nat) (S : FS) (A X B : List UInt8), S.off = false → S.bs = A ++ X ++ B → A.length = F * S.s → X.length = C * S.s → 1 ≤ S.s →
    ((erAll C F S).2 = 0 ∧ (erAll C F S).1 = { S with left := S.left - C, wr := S.wr + C, bs := A ++ List.replicate (C * S.s) 255 ++ B }) ∨
    ((erAll C F S).2 = 6 ∧ (erAll C F S).1.off = true ∧ (erAll C F S).1.n = S.n ∧ (erAll C F S).1.s = S.s ∧ ∃ X', X'.length = X.length ∧ (erAll C F S).1.bs = A ++ X' ++ B ∧ (X' = X ∨ X'[0]? = some 255))
  | 0, F, S, A, X, B, h1, h3, h4, h5, h6 => by
    have hX : X = [] := List.length_eq_zero_iff.1 (by omega)
    subst hX
    obtain ⟨n, s, bs, off, left, part, wr⟩ := S
    simp only at h3
    subst h3
    left
    simp [erAll]
  | C + 1, F, S, A, X, B, h1, h3, h4, h5, h6 => by
    obtain ⟨n, s, bs, off, left, part, wr⟩ := S
    simp only at h1 h3 h4 h5 h6
    subst h1 h3
    have hs : s ≤ X.length := by rw [h5, Nat.succ_mul]; omega
    have hsp : ∀ p, p ≤ s → splice (A ++ X ++ B) (F * s) (List.replicate p 255) = A ++ (List.replicate p 255 ++ X.drop p) ++ B := fun p hp => by
      have h9 := splice_app A (X.take p) (X.drop p ++ B) (List.replicate p 255) (F * s) h4 (by rw [List.length_replicate, List.length_take]; omega)
      have h8 : A ++ X.take p ++ (X.drop p ++ B) = A ++ X ++ B := by
        simp only [List.append_assoc]
        rw [← List.append_assoc (X.take p), List.take_append_drop]
      rw [h8] at h9
      rw [h9]
      simp
    by_cases hl : left = 1
    · subst hl
      have her : erR F ⟨n, s, A ++ X ++ B, false, 1, part, wr⟩ = (⟨n, s, A ++ (List.replicate (min part s) 255 ++ X.drop (min part s)) ++ B, true, 0, part, wr⟩, 6) := by
        unfold erR FS.er
        simp only [Bool.false_eq_true, if_false, if_true]
        rw [hsp (min part s) (Nat.min_le_right _ _)]
      right
      have h0 : erAll (C + 1) F ⟨n, s, A ++ X ++ B, false, 1, part, wr⟩ = (⟨n, s, A ++ (List.replicate (min part s) 255 ++ X.drop (min part s)) ++ B, true, 0, part, wr⟩, 6) := by
        rw [erAll, her]
        rfl
      rw [h0]
      refine ⟨rfl, rfl, rfl, rfl, _, ?_, rfl, ?_⟩
      · rw [List.length_append, List.length_replicate, List.length_drop]
        have := Nat.min_le_right part s
        omega
      · rcases Nat.eq_zero_or_pos (min part s) with hm | hm
        · left; rw [hm]; rfl
        · right
          rw [List.getElem?_append_left (by rw [List.length_replicate]; exact hm), List.getElem?_replicate, if_pos hm]
    · have her : erR F ⟨n, s, A ++ X ++ B, false, left, part, wr⟩ = (⟨n, s, A ++ List.replicate s 255 ++ (X.drop s ++ B), false, left - 1, part, wr + 1⟩, 0) := by
        unfold erR FS.er
        simp only [Bool.false_eq_true, if_false]
        rw [if_neg hl, if_neg hl, hsp s (Nat.le_refl _)]
        simp
      have ih := erAll_out C (F + 1) ⟨n, s, A ++ List.replicate s 255 ++ (X.drop s ++ B), false, left - 1, part, wr + 1⟩ (A ++ List.replicate s 255) (X.drop s) B rfl (by simp) (by simp only [List.length_append, List.length_replicate]; rw [h4, Nat.succ_mul]) (by rw [List.length_drop, h5, Nat.succ_mul]; simp only; omega) h6
      have h0 : erAll (C + 1) F ⟨n, s, A ++ X ++ B, false, left, part, wr⟩ = erAll C (F + 1) ⟨n, s, A ++ List.replicate s 255 ++ (X.drop s ++ B), false, left - 1, part, wr + 1⟩ := by
        rw [erAll, her]
        rfl
      rw [h0]
      rcases ih with ⟨h7, h8⟩ | ⟨h7, h8, h9, h10, X', h11, h12, _⟩
      · left
        refine ⟨h7, ?_⟩
        rw [h8]
        simp only [FS.mk.injEq, and_true, true_and]
        refine ⟨?_, by omega, by omega⟩
        rw [Nat.succ_mul, Nat.add_comm (C * s) s, ← List.replicate_append_replicate]
        simp
      · right
        refine ⟨h7, h8, h9, h10, List.replicate s 255 ++ X', ?_, ?_, .inr ?_⟩
        · rw [List.length_append, List.length_replicate, h11, List.length_drop]; omega
        · rw [h12]; simp
        · rw [List.getElem?_append_left (by rw [List.length_replicate]; exact h6), List.getElem?_replicate, if_pos (by omega)]
theorem erAll_kept : ∀ (C F : Nat) (S : FS), (erAll C F S).1.n = S.n ∧ (erAll C F S).1.s = S.s ∧ (erAll C F S).1.wr ≤ S.wr + C
  | 0, F, S => ⟨rfl, rfl, Nat.le_refl _⟩
  | C + 1, F, S => by
    obtain ⟨a1, a2, a3, _⟩ := erR_kept F S
    rw [erAll]
    split
    · obtain ⟨b1, b2, b3⟩ := erAll_kept C (F + 1) (erR F S).1
      exact ⟨b1.trans a1, b2.trans a2, by omega⟩
    · exact ⟨a1, a2, by omega⟩
theorem fmtQ_kept (gen F C : Nat) (S : FS) : (fmtQ gen F C S).1.n = S.n ∧ (fmtQ gen F C S).1.s = S.s ∧ (fmtQ gen F C S).1.wr ≤ S.wr + C + 12 := by
  obtain ⟨a1, a2, a3⟩ := erAll_kept C F S
  obtain ⟨b1, b2, b3⟩ := progR_kept (headG gen) (F * S.s) (erAll C F S).1
  rw [headG_len] at b3
  unfold fmtQ
  split
  · exact ⟨b1.trans a1, b2.trans a2, by omega⟩
  · exact ⟨a1, a2, by omega⟩
theorem fmtQ_wr (gen F C : Nat) (S : FS) : (fmtQ gen F C S).1.wr ≤ S.wr + C + 12 := (fmtQ_kept gen F C S).2.2
/-- Where a head cannot be ready. -/
def Cut (X Y : List UInt8) : Prop := Y = X ∨ Y[0]? = some 255 ∨ Y[12]? = some 255
theorem cut_head {X : List UInt8} (hl : 16 ≤ X.length) (h : X[0]? = some 255 ∨ X[12]? = some 255) : (headQ X).2 = false := by
  unfold headQ
  split
  · rename_i he
    rcases h with h | h
    · have h1 : (X.take 12)[0]? = X[0]? := by rw [List.getElem?_take, if_pos (by omega)]
      rw [← he, h] at h1
      have h2 : (headG (leN (cut X 4 4)))[0]? = some 76 := rfl
      rw [h2] at h1
      exact absurd h1 (by decide)
    · simp only
      rw [List.getD_eq_getElem?_getD, h]
      rfl
  · rfl
theorem fmt_out (gen : Nat) (S : FS) (h1 : S.off = false) (h2 : S.n = 8) (h3 : S.s = 256) (h4 : S.bs.length = 2048) :
    ((fmtQ gen 0 8 S).2 = 0 ∧ (fmtQ gen 0 8 S).1.off = false ∧ (fmtQ gen 0 8 S).1.n = 8 ∧ (fmtQ gen 0 8 S).1.s = 256 ∧ (fmtQ gen 0 8 S).1.bs = bankL (headG gen ++ [255, 255, 255, 255]) [] 2032) ∨
    ((fmtQ gen 0 8 S).2 = 6 ∧ (fmtQ gen 0 8 S).1.off = true ∧ (fmtQ gen 0 8 S).1.n = 8 ∧ (fmtQ gen 0 8 S).1.s = 256 ∧ Cut S.bs (fmtQ gen 0 8 S).1.bs) := by
  have hl := headG_len gen
  obtain ⟨n, s, bs, off, left, part, wr⟩ := S
  simp only at h1 h2 h3 h4
  subst h1 h2 h3
  unfold fmtQ
  rcases erAll_out 8 0 ⟨8, 256, bs, false, left, part, wr⟩ [] bs [] rfl (by simp) (by simp) (show bs.length = 8 * 256 from h4) (show 1 ≤ 256 by decide) with ⟨e1, e2⟩ | ⟨e1, e2, e3, e4, X', e5, e6, e7⟩
  · rw [if_pos e1, e2]
    unfold progR
    simp only [Bool.false_eq_true, if_false]
    rw [progQ_eq]
    split
    · left
      refine ⟨rfl, rfl, rfl, rfl, ?_⟩
      simp only
      have h7 := andAt_free (headG gen) [] [] 2048 (by omega)
      simp only [List.nil_append, List.append_nil, List.length_nil] at h7 ⊢
      rw [show 8 * 256 = 2048 from rfl, show 0 * 256 = 0 from rfl, h7, hl]
      unfold bankL layAll
      rw [show 2048 - 12 = 4 + 2032 from rfl, ← List.replicate_append_replicate]
      simp [List.replicate_succ]
    · right
      refine ⟨rfl, rfl, rfl, rfl, .inr (.inr ?_)⟩
      simp only
      rw [andAt_get, if_neg (by rw [List.length_take]; omega)]
      simp only [List.nil_append, List.append_nil]
      rw [List.getElem?_replicate, if_pos (by decide)]
  · rw [if_neg (by rw [e1]; decide)]
    right
    refine ⟨e1, e2, e3, e4, ?_⟩
    rw [e6]
    simp only [List.nil_append, List.append_nil]
    rcases e7 with e7 | e7
    · exact .inl e7
    · exact .inr (.inl e7)
theorem ready_out (gen : Nat) (T : FS) (h1 : T.off = false) (h2 : T.n = 8) (h3 : T.s = 256) (h4 : T.bs = bankL (headG gen ++ [255, 255, 255, 255]) [] 2032) :
    ((progR [254] (0 * T.s + 12) T).2 = 0 ∧ (progR [254] (0 * T.s + 12) T).1.off = false ∧ (progR [254] (0 * T.s + 12) T).1.n = 8 ∧ (progR [254] (0 * T.s + 12) T).1.s = 256 ∧ (progR [254] (0 * T.s + 12) T).1.bs = bankL (hdR gen) [] 2032) ∨
    ((progR [254] (0 * T.s + 12) T).2 = 6 ∧ (progR [254] (0 * T.s + 12) T).1.off = true ∧ (progR [254] (0 * T.s + 12) T).1.n = 8 ∧ (progR [254] (0 * T.s + 12) T).1.s = 256 ∧ (progR [254] (0 * T.s + 12) T).1.bs[12]? = some 255) := by
  have hl := headG_len gen
  unfold progR
  simp only [h1, Bool.false_eq_true, if_false]
  rw [progQ_eq]
  have hb : T.bs = headG gen ++ 255 :: ([255, 255, 255] ++ List.replicate 2032 255) := by rw [h4]; unfold bankL layAll; simp
  split
  · left
    refine ⟨rfl, h1, h2, h3, ?_⟩
    simp only
    rw [hb, Nat.zero_mul, Nat.zero_add, andAt_one' (headG gen) _ 255 254 12 hl.symm]
    rw [show (255 : UInt8) &&& 254 = 254 from rfl]
    unfold bankL hdR layAll
    simp
  · rename_i hno
    right
    refine ⟨rfl, rfl, h2, h3, ?_⟩
    simp only
    have : T.left - 1 = 0 := by simp only [List.length_cons, List.length_nil] at hno; omega
    rw [this, List.take_zero, andAt, hb, List.getElem?_append_right (by omega), hl]
    rfl
end Go.Proofs.YtkajlbdiofobcaaDoor
namespace Go.Proofs.YtkajlbdiofobcaaDoor
open Go.RowKit Go
set_option linter.unusedVariables false
set_option linter.unusedSimpArgs false
set_option maxRecDepth 100000
theorem progR_drop (xs : List UInt8) (k m : Nat) (S : FS) (h : k + xs.length ≤ m) : (progR xs k S).1.bs.drop m = S.bs.drop m := by
  unfold progR
  split
  · rfl
  · exact progQ_drop xs k m S h
theorem erR_drop (k m : Nat) (S : FS) (h : k * S.s + S.s ≤ m) (hl : k * S.s + S.s ≤ S.bs.length) : (erR k S).1.bs.drop m = S.bs.drop m ∧ (erR k S).1.bs.length = S.bs.length := by
  unfold erR
  split
  · exact ⟨rfl, rfl⟩
  · unfold FS.er
    split
    · have hm := Nat.min_le_right S.part S.s
      exact ⟨splice_drop _ _ _ _ (by rw [List.length_replicate]; omega) (by rw [List.length_replicate]; omega), splice_len' _ _ _ (by rw [List.length_replicate]; omega)⟩
    · exact ⟨splice_drop _ _ _ _ (by rw [List.length_replicate]; omega) (by rw [List.length_replicate]; omega), splice_len' _ _ _ (by rw [List.length_replicate]; omega)⟩
theorem erAll_drop : ∀ (C F m : Nat) (S : FS), F * S.s + C * S.s ≤ m → F * S.s + C * S.s ≤ S.bs.length → (erAll C F S).1.bs.drop m = S.bs.drop m
  | 0, F, m, S, _, _ => rfl
  | C + 1, F, m, S, h, hl => by
    rw [Nat.succ_mul] at h hl
    obtain ⟨a1, a2, a3, _⟩ := erR_kept F S
    obtain ⟨b1, b2⟩ := erR_drop F m S (by omega) (by omega)
    rw [erAll]
    split
    · rw [erAll_drop C (F + 1) m (erR F S).1 (by rw [a2, Nat.succ_mul]; omega) (by rw [a2, b2, Nat.succ_mul]; omega), b1]
    · exact b1
theorem fmtQ_drop (gen F C m : Nat) (S : FS) (h : F * S.s + C * S.s ≤ m) (hl : F * S.s + C * S.s ≤ S.bs.length) (h12 : F * S.s + 12 ≤ m) : (fmtQ gen F C S).1.bs.drop m = S.bs.drop m := by
  have h1 := erAll_drop C F m S h hl
  unfold fmtQ
  split
  · rw [progR_drop _ _ _ _ (by rw [headG_len]; exact h12), h1]
  · exact h1
/-- A flash that has the same second half, and some more writes. -/
structure TK (S T : FS) : Prop where
  n : T.n = S.n
  s : T.s = S.s
  wr : T.wr ≤ S.wr + 200000
  bs : T.bs.drop 1024 = S.bs.drop 1024
theorem TK.refl (S : FS) : TK S S := ⟨rfl, rfl, Nat.le_add_right _ _, rfl⟩
theorem tk_fmt (gen : Nat) (S : FS) (h2 : S.s = 256) (h4 : S.bs.length = 2048) : TK S (fmtQ gen 0 4 S).1 := by
  obtain ⟨a1, a2, a3⟩ := fmtQ_kept gen 0 4 S
  exact ⟨a1, a2, by omega, fmtQ_drop gen 0 4 1024 S (by omega) (by omega) (by omega)⟩
theorem tk_ready (S : FS) (h2 : S.s = 256) : TK S (progR [254] (0 * S.s + 12) S).1 := by
  obtain ⟨a1, a2, a3⟩ := progR_kept [254] (0 * S.s + 12) S
  have a4 : (progR [254] (0 * S.s + 12) S).1.wr ≤ S.wr + 1 := a3
  exact ⟨a1, a2, by omega, progR_drop _ _ _ _ (show 0 * S.s + 12 + 1 ≤ 1024 by omega)⟩
theorem bank04 (S : FS) (h2 : S.s = 256) (h4 : S.bs.length = 2048) : (S.bank 0 4).length = 1024 := by
  unfold FS.bank
  rw [h2, List.length_take, List.length_drop, h4]
  rfl
theorem tk_add (S : FS) (h2 : S.s = 256) (h4 : S.bs.length = 2048) (key val : List UInt8) (T : FS) (r : Int) (ha : AddIs S 0 4 key val T r) : TK S T := by
  unfold AddIs at ha
  split at ha
  · rename_i hfit
    obtain ⟨l, q, hs, hif⟩ := ha
    split at hif
    · rw [hif.1]; exact TK.refl S
    · split at hif
      · rw [hif.1]; exact TK.refl S
      · rename_i hno
        rw [hif.1]
        obtain ⟨a1, a2, a3, _⟩ := addQ_kept key val (0 * S.s + q) S
        exact ⟨a1, a2, by omega, addQ_drop key val _ _ S (by rw [h2] at hno ⊢; omega)⟩
  · rw [ha.1]; exact TK.refl S
theorem tk_kill (S : FS) (h2 : S.s = 256) (h4 : S.bs.length = 2048) (i : Int) (T : FS) (r : Int) (ha : KillIs S 0 4 i T r) : TK S T := by
  obtain ⟨l, q, hs, hif⟩ := ha
  rcases hif with ⟨_, h, _⟩ | ⟨j, p, _, hp, h, _⟩
  · rw [h]; exact TK.refl S
  · rw [h]
    obtain ⟨a1, a2, a3⟩ := progQ_kept [248] (0 * S.s + p.1) S
    have hm := hs.got.mem (by rw [bank04 S h2 h4]; omega) p (List.mem_of_getElem? hp)
    have h9 : RD.len p.2 = 12 + p.2.body.length := rfl
    rw [bank04 S h2 h4] at hm
    have a4 : (progQ [248] (0 * S.s + p.1) S).1.wr ≤ S.wr + 1 := a3
    exact ⟨a1, a2, by omega, progQ_drop _ _ _ S (show 0 * S.s + p.1 + 1 ≤ 1024 by omega)⟩
/-- An Add while the power stays leaves it on. -/
theorem add_off0 (S : FS) (F C : Nat) (key val : List UInt8) (T : FS) (r : Int) (h1 : S.off = false) (h2 : S.left = 0) (ha : AddIs S F C key val T r) : T.off = false ∧ T.left = 0 ∧ T.n = S.n ∧ T.s = S.s ∧ T.wr ≤ S.wr + 70000 := by
  unfold AddIs at ha
  split at ha
  · rename_i hfit
    obtain ⟨l, q, hs, hif⟩ := ha
    split at hif
    · rw [hif.1]; exact ⟨h1, h2, rfl, rfl, by omega⟩
    · split at hif
      · rw [hif.1]; exact ⟨h1, h2, rfl, rfl, by omega⟩
      · rw [hif.1]
        obtain ⟨a1, a2, a3, _⟩ := addQ_kept key val (F * S.s + q) S
        have hq : ∀ (xs : List UInt8) (k : Nat) (S : FS), S.left = 0 → S.off = false → (progQ xs k S).2 = 0 ∧ (progQ xs k S).1.left = 0 ∧ (progQ xs k S).1.off = false := fun xs k S h h' => by
          rw [progQ_eq, if_pos (.inl h)]
          exact ⟨rfl, by simp [h], h'⟩
        obtain ⟨b1, b2, b3⟩ := hq [254] (F * S.s + q) S h2 h1
        obtain ⟨c1, c2, c3⟩ := hq (tailL key val) (F * S.s + q + 1) _ b2 b3
        obtain ⟨d1, d2, d3⟩ := hq [252] (F * S.s + q) _ c2 c3
        refine ⟨?_, ?_, a1, a2, by omega⟩
        · unfold addQ; rw [if_pos b1, if_pos c1]; exact d3
        · unfold addQ; rw [if_pos b1, if_pos c1]; exact d2
  · rw [ha.1]; exact ⟨h1, h2, rfl, rfl, by omega⟩
end Go.Proofs.YtkajlbdiofobcaaDoor
namespace Go.Proofs.YtkajlbdiofobcaaDoor
open Go.RowKit Go
set_option linter.unusedVariables false
set_option linter.unusedSimpArgs false
set_option maxRecDepth 100000
/-- The flash is another one that has the same second half; all but its blocks stays. -/
def DA (base b g a c : Nat) (S : FS) (w w' : World) : Prop := ∃ T, TK S T ∧ BK w' base b g a c T 0 4 ∧ Far g a w w'
section
variable {base b g a c F C : Nat} {S : FS} {w w' v : World}
theorem BK.set (h : BK w base b g a c S F C) {k j : Nat} {u : Value} (h1 : b ≠ k) (h2 : k ≠ g) (h3 : k ≠ a) : BK (w.setCell ⟨k, j, none⟩ u) base b g a c S F C :=
  ⟨has_set h.bk h1, ⟨has_set h.fl.st (fun e => h2 e.symm), h.fl.own.kept (grown_one _ _ _ _) (.inr (fun e => h3 (Option.some.inj e).symm)), h.fl.gb, h.fl.ne, h.fl.n1, h.fl.n2, h.fl.s1, h.fl.s2, h.fl.lb⟩, h.c1, h.fc, h.cs, h.bb, h.bg, h.ba⟩
theorem DA.of (h : BK w base b g a c S 0 4) (hb : Below w.heap.size w w') : DA base b g a c S w w' := ⟨S, TK.refl S, h.below hb, Far.of_below hb⟩
theorem DA.below (h : DA base b g a c S w w') (hb : Below w'.heap.size w' v) : DA base b g a c S w v := by
  obtain ⟨T, h1, h2, h3⟩ := h
  exact ⟨T, h1, h2.below hb, h3.trans (Far.of_below hb)⟩
theorem DA.pre (hb : Below w.heap.size w v) (h : DA base b g a c S v w') : DA base b g a c S w w' := by
  obtain ⟨T, h1, h2, h3⟩ := h
  exact ⟨T, h1, h2, (Far.of_below hb).trans h3⟩
theorem Far.set (h : Far g a w w') {k j : Nat} {u : Value} (hk : w.heap.size ≤ k) : Far g a w (w'.setCell ⟨k, j, none⟩ u) :=
  ⟨h.os, h.tape, h.output, by simpa [World.setCell] using h.size, fun i hi h1 h2 => by
    rw [heap_set_far _ k i j u (by omega)]; exact h.block i hi h1 h2⟩
theorem DA.set (h : DA base b g a c S w w') {k j : Nat} {u : Value} (hl : b < w.heap.size ∧ g < w.heap.size ∧ a < w.heap.size) (hk : w.heap.size ≤ k) : DA base b g a c S w (w'.setCell ⟨k, j, none⟩ u) := by
  obtain ⟨T, h1, h2, h3⟩ := h
  exact ⟨T, h1, h2.set (by omega) (by omega) (by omega), h3.set hk⟩
theorem BK.lts (h : BK w base b g a c S F C) : b < w.heap.size ∧ g < w.heap.size ∧ a < w.heap.size := ⟨h.alt, h.fl.alt, (h.fl.own.blk_lt rfl).2⟩
/-- What is known of the flash ahead. -/
structure Pre4 (S : FS) : Prop where
  n : S.n = 8
  s : S.s = 256
  wr : S.wr ≤ 4000000000000000000
theorem Pre4.len {S : FS} (h : Pre4 S) (hK : BK w base b g a c S F C) : S.bs.length = 2048 := by have := hK.bytes; rw [h.n, h.s] at this; exact this
def AllPost (base b g a c : Nat) (S : FS) (w : World) (e : Ending) (w' : World) : Prop := ∃ r : Int, e = .returned (.int .i64 r) ∧ DA base b g a c S w w'
theorem format_all {v0 : World} (hv : Tabs v0) (hvb : v0.heap.size ≤ base) (hvw : Below v0.heap.size v0 w) (hK : BK w base b g a c S 0 4) (hp : Pre4 S) (z : Int) (hz : 0 ≤ z ∧ z < 4294967296) :
    Calls Tryd.prog 23 #[.pointer (some ⟨b, 0, none⟩), .int .u32 z] w (AllPost base b g a c S w) := by
  obtain ⟨gen, rfl⟩ := Int.eq_ofNat_of_zero_le hz.1
  refine (format_any hv hvb hvw hK (by have := hp.wr; omega) gen (by omega)).mono ?_
  rintro e w' ⟨rfl, h1, h2⟩
  exact ⟨_, rfl, _, tk_fmt gen S hp.s (hp.len hK), h1, h2⟩
theorem ready_all (hK : BK w base b g a c S 0 4) (hp : Pre4 S) : Calls Tryd.prog 24 #[.pointer (some ⟨b, 0, none⟩)] w (AllPost base b g a c S w) := by
  refine (ready_any hK (by have := hp.wr; omega)).mono ?_
  rintro e w' ⟨rfl, h1, h2⟩
  exact ⟨_, rfl, _, tk_ready S hp.s, h1, h2⟩
theorem kill_all (ht : Tabs w) (hK : BK w base b g a c S 0 4) (hp : Pre4 S) (i : Int) : Calls Tryd.prog 21 #[.pointer (some ⟨b, 0, none⟩), .int .i64 i] w (AllPost base b g a c S w) := by
  rcases hS : S.off with _ | _
  · refine (kill_any ht hK hS i (by have := hp.wr; omega)).mono ?_
    rintro e w' ⟨T, r, rfl, h1, h2, h3⟩
    exact ⟨_, rfl, T, tk_kill S hp.s (hp.len hK) i T r h1, h2, h3⟩
  · refine (kill_off hK hS i).mono ?_
    rintro e w' ⟨rfl, hb⟩
    exact ⟨_, rfl, DA.of hK hb⟩
theorem arm_all8 (hK : BK w base b g a c S 0 4) (n p : Int) (hn : n ≤ 9223372036854775807) : Calls Tryd.prog 16 #[.pointer (some ⟨g, 0, none⟩), .int .i64 n, .int .i64 p] w (AllPost base b g a c S w) := by
  by_cases hno : S.off = true ∨ n < 0 ∨ p < 0
  · refine (farm_no hK.fl n p hno).mono ?_
    rintro e w' ⟨rfl, rfl⟩
    exact ⟨_, rfl, DA.of hK (Below.refl _ _)⟩
  · have h1 : S.off = false := by rcases hS : S.off with _ | _; rfl; exact absurd (.inl hS) hno
    have h2 : 0 ≤ n := Int.not_lt.1 fun h => hno (.inr (.inl h))
    have h3 : 0 ≤ p := Int.not_lt.1 fun h => hno (.inr (.inr h))
    obtain ⟨n', rfl⟩ := Int.eq_ofNat_of_zero_le h2
    obtain ⟨p', rfl⟩ := Int.eq_ofNat_of_zero_le h3
    refine (farm_any hK.fl h1 n' p' (by omega)).mono ?_
    rintro e w' ⟨rfl, hf, hfar⟩
    exact ⟨_, rfl, { S with left := n', part := p' }, ⟨rfl, rfl, Nat.le_add_right _ _, rfl⟩, hK.next hf rfl rfl hfar, hfar⟩
theorem on_all8 (hK : BK w base b g a c S 0 4) : Calls Tryd.prog 19 #[.pointer (some ⟨g, 0, none⟩)] w (AllPost base b g a c S w) := by
  refine (fon_any hK.fl).mono ?_
  rintro e w' ⟨rfl, hf, hfar⟩
  exact ⟨_, rfl, { S with off := false }, ⟨rfl, rfl, Nat.le_add_right _ _, rfl⟩, hK.next hf rfl rfl hfar, hfar⟩
theorem add_all {v0 : World} (hv : Tabs v0) (hvb : v0.heap.size ≤ base) (hvw : Below v0.heap.size v0 w) (hK : BK w base b g a c S 0 4) (hp : Pre4 S) (A B : Option Addr) (n ca m cb : Nat) (key val : List UInt8) (hA : RB w A n key) (hB : RB w B m val)
    (hAn : key ≠ [] → ∀ d, A = some d → d.block ≠ g ∧ d.block ≠ a) (hBn : val ≠ [] → ∀ d, B = some d → d.block ≠ g ∧ d.block ≠ a) :
    Calls Tryd.prog 17 #[.pointer (some ⟨b, 0, none⟩), .slice A n ca, .slice B m cb] w (AllPost base b g a c S w) := by
  have hpost : ∀ e w', AddPost w base b g a c S 0 4 key val e w' → AllPost base b g a c S w e w' := by
    rintro e w' ⟨T, r, rfl, h1, h2, h3⟩
    exact ⟨_, rfl, T, tk_add S hp.s (hp.len hK) key val T r h1, h2, h3⟩
  by_cases hfit : 1 ≤ n ∧ n ≤ 255 ∧ m ≤ 65536
  · rcases hS : S.off with _ | _
    · exact (addfit_yes hv hvb hvw hK hS A B n ca m cb key val hA hB hAn hBn (by have := hp.wr; omega) hfit).mono hpost
    · refine (add_off hK hS A B n ca m cb hfit).mono ?_
      rintro e w' ⟨rfl, hb⟩
      exact ⟨_, rfl, DA.of hK hb⟩
  · exact (addfit_no hK A B n ca m cb key val hA.1 hB.1 hfit).mono hpost
/-- Head, with power and without. -/
theorem head_off (hK : BK w base b g a c S F C) (hS : S.off = true) : Calls Tryd.prog 26 #[.pointer (some ⟨b, 0, none⟩)] w fun e w' => e = .returned (.tuple #[.int .u32 0, .bool false, .int .i64 6]) ∧ Below w.heap.size w w' := by
  have ST := Lib.hid (fun W (hb : Below w.heap.size w W) => start_any (hK.below hb))
  have RD : Hid (∀ W, Below w.heap.size w W → Calls Tryd.prog 44 #[.pointer (some ⟨g, 0, none⟩), .int .i64 ((F * S.s : Nat) : Int), .int .i64 16] W fun e w' => e = .returned (.tuple #[.slice none 0 0, .int .i64 6]) ∧ w' = W) := fun W hb =>
    (fread_no (hK.fl.below hb) (F * S.s : Nat) 16 (.inl hS)).mono fun e w' ⟨h1, h2⟩ => ⟨by rw [h1, hS]; rfl, h2⟩
  generalize F * S.s = N0 at *
  obtain ⟨k0, k1, k2⟩ := cells_3 hK.bk
  have KEEP : Hid (∀ W, Below w.heap.size w W → W.cell? ⟨b, 0, none⟩ = some (.pointer (some ⟨g, 0, none⟩)) ∧ Below w.heap.size w W) := fun W hb => ⟨kp_cell hb k0, hb⟩
  have B0 := Lib.hid (Below.refl w.heap.size w)
  clear hK hS k1 k2
  go_enter Tryd.func26, Tryd.ntmps26
  go_wp2_with fail
  go_region_held3 (fun W => W.cell? ⟨b, 0, none⟩ = some (.pointer (some ⟨g, 0, none⟩)) ∧ Below w.heap.size w W)
    ((apply KEEP.out; repeat (with_reducible (first | assumption | exact B0.out | refine kp_drew ?_ | refine kp_call ?_ (by assumption)))))
    (first
      | (go_at_call 39; (with_reducible refine (ST.out _ (by (go_split_ands; assumption))).mono ?_); (rintro e X1 ⟨rfl, hb2⟩; have H2 : Hid (Below w.heap.size w X1) := (by (first | exact hb2 | exact (kp_drew (Below.refl _ _)).trans hb2))))
      | (go_at_call 44; (with_reducible refine (RD.out _ (by (go_split_ands; assumption))).mono ?_); (rintro e X2 ⟨rfl, hX2⟩; subst hX2)))
  all_goals
    clear hb2
    go_wp2
    go_ret3
    first | exact ⟨rfl, H2.out⟩ | exact ⟨rfl, kp_drew H2.out⟩
theorem head_all (ht : Tabs w) (hK : BK w base b g a c S F C) : Calls Tryd.prog 26 #[.pointer (some ⟨b, 0, none⟩)] w fun e w' => ∃ (q : Nat) (rd : Bool) (r : Int), e = .returned (.tuple #[.int .u32 (q : Int), .bool rd, .int .i64 r]) ∧ Below w.heap.size w w' := by
  rcases hS : S.off with _ | _
  · refine (head_on ht hK hS).mono ?_
    rintro e w' ⟨rfl, hb⟩
    exact ⟨_, _, _, rfl, hb⟩
  · refine (head_off hK hS).mono ?_
    rintro e w' ⟨rfl, hb⟩
    exact ⟨0, _, _, rfl, hb⟩
/-- Scan, with power and without. -/
theorem scan_all (ht : Tabs w) (hK : BK w base b g a c S 0 4) (hp : Pre4 S) : Calls Tryd.prog 30 #[.pointer (some ⟨b, 0, none⟩)] w fun e w' => ∃ (A : Option Addr) (n c : Nat) (q : Int) (wh : Bool) (r : Int) (ys : List SV), e = .returned (.tuple #[.slice A n c, .int .i64 q, .bool wh, .int .i64 r]) ∧ OwnR w' w.heap.size 72 3 A n c (ys.flatMap SV.cells) ∧ SVs w' w.heap.size ys ∧ n ≤ 1000000 ∧ (∀ y ∈ ys, y.kn ≤ 1000000000 ∧ y.vn ≤ 1000000000) ∧ Below w.heap.size w w' := by
  rcases hS : S.off with _ | _
  · refine (scan_any ht hK hS).mono ?_
    rintro e w' ⟨A, n, c, ys, l, q, rfl, hs, hm, ho, hv, hb⟩
    have hX := bank04 S hp.s (hp.len hK)
    have hle := hs.got.le (by rw [hX]; omega)
    have hyl : ys.length = l.length := by have := congrArg List.length hm; simpa using this
    have hnl : ys.length = n := by have h1 := ho.len; rw [cells_len3] at h1; omega
    refine ⟨A, n, c, q, _, 0, ys, rfl, ho, hv, by omega, fun y hy => ?_, hb⟩
    have h1 : y.r ∈ ys.map SV.r := List.mem_map.2 ⟨y, hy, rfl⟩
    rw [hm] at h1
    obtain ⟨x, hx, hxe⟩ := List.mem_map.1 h1
    have h2 := hs.got.mem (by rw [hX]; omega) x hx
    rw [hxe, hX] at h2
    have h9 : RD.len y.r = 12 + y.r.body.length := rfl
    have e1 := (hv.own y hy).1.len
    have e2 := (hv.own y hy).2.len
    rw [List.length_take] at e1
    rw [List.length_drop] at e2
    have := h2.2.2.2
    constructor <;> omega
  · refine (scan_off hK hS).mono ?_
    rintro e w' ⟨rfl, hb⟩
    exact ⟨none, 0, 0, 0, false, 6, [], rfl, OwnR.nil _ _ _ _, SVs.nil _ _, by omega, fun y hy => (by cases hy), hb⟩
/-- What does answers. -/
def DoesA (base b g a c : Nat) (S : FS) (w : World) (e : Ending) (w' : World) : Prop := (∃ v, e = .returned v) ∧ DA base b g a c S w w'
set_option maxHeartbeats 4000000 in
theorem does8_0 (hv : Tabs v) (hvb : v.heap.size ≤ base) (hvw : Below v.heap.size v w) (hK : BK w base b g a c S 0 4) (hp : Pre4 S) (np pt : Int) (hnp : np ≤ 9223372036854775807) (K V : Option Addr) (kn kc vn vc : Nat) :
    Calls Tryd.prog 12 #[.pointer (some ⟨g, 0, none⟩), .pointer (some ⟨b, 0, none⟩), .agg #[.int .i64 0, .int .i64 np, .int .i64 pt, .slice K kn kc, .slice V vn vc]] w (DoesA base b g a c S w) := by
  have HT := Lib.hid (hv.below hvw)
  have HV0 := Lib.hid (And.intro hv (And.intro hvb hvw))
  have HL := Lib.hid hK.lts
  have HK := Lib.hid hK
  have HP := Lib.hid hp
  clear hK hp
  go_enter Tryd.func12, Tryd.ntmps12
  go_wp2_with fail
  refine calls_nm fun W hW => ?_
  have hbW : Below w.heap.size w W := by rw [← hW]; exact kp_alloc (kp_alloc (kp_alloc (Below.refl _ _) _) _) _
  have g0 : W.heap[w.heap.size]? = some (.cells #[.int .i64 0, .int .i64 np, .int .i64 pt, .slice K kn kc, .slice V vn vc] 24) := by rw [← hW]; exact has_alloc (has_alloc (has_new _ _) _) _
  have g1 : W.heap[w.heap.size + 1]? = some (.cells #[.slice none 0 0, .int .i64 0, .bool false, .int .i64 0] 36) := by rw [← hW]; exact has_alloc (has_new' _ _ _ (by simp)) _
  have g2 : W.heap[w.heap.size + 1 + 1]? = some (.cells #[.slice none 0 0, .int .i64 0, .bool false, .int .i64 0] 36) := by rw [← hW]; exact has_new' _ _ _ (by simp)
  have HKW := Lib.hid (HK.out.below hbW)
  have HTW := Lib.hid (HT.out.below hbW)
  clear hW
  refine (format_all HV0.out.1 HV0.out.2.1 (kp_call HV0.out.2.2 hbW) HKW.out HP.out _ (by constructor <;> omega)).mono ?_
  rintro e w1 ⟨r, rfl, hda⟩
  have hl := HL.out
  obtain ⟨T1, q1, q2, hfar⟩ := hda
  have k1 := hfar.has g1 (by omega) (by omega)
  have k2 := hfar.has g2 (by omega) (by omega)
  have HDA : Hid (DA base b g a c S w w1) := DA.pre hbW ⟨T1, q1, q2, hfar⟩
  obtain ⟨y0, y1, y2, y3⟩ := cells_4 k2
  obtain ⟨z0, z1, z2, z3⟩ := free_4 k2
  obtain ⟨u0, u1, u2, u3⟩ := free_4 k1
  obtain ⟨x0, x1, x2, x3⟩ := cells_4 k1
  have K1 := Lib.hid k1
  clear k1 k2 q1 q2 hfar hbW g0 g1 g2 hl
  go_wp2
  refine bodyPost_ret (results_ct Tryd.results12 _ (LV.agg (set_4 (has_set (k := w.heap.size + 1 + 1) (j := 3) (u := .int .i64 r) K1.out (by omega))) Tryd.underlying36 rfl (by kernel_rfl))) rfl ?_
  exact ⟨⟨_, rfl⟩, DA.set (DA.set (DA.set (DA.set (DA.set HDA.out HL.out (by omega)) HL.out (by omega)) HL.out (by omega)) HL.out (by omega)) HL.out (by omega)⟩
set_option maxHeartbeats 4000000 in
theorem does8_1 (hv : Tabs v) (hvb : v.heap.size ≤ base) (hvw : Below v.heap.size v w) (hK : BK w base b g a c S 0 4) (hp : Pre4 S) (np pt : Int) (hnp : np ≤ 9223372036854775807) (K V : Option Addr) (kn kc vn vc : Nat) :
    Calls Tryd.prog 12 #[.pointer (some ⟨g, 0, none⟩), .pointer (some ⟨b, 0, none⟩), .agg #[.int .i64 1, .int .i64 np, .int .i64 pt, .slice K kn kc, .slice V vn vc]] w (DoesA base b g a c S w) := by
  have HT := Lib.hid (hv.below hvw)
  have HV0 := Lib.hid (And.intro hv (And.intro hvb hvw))
  have HL := Lib.hid hK.lts
  have HK := Lib.hid hK
  have HP := Lib.hid hp
  clear hK hp
  go_enter Tryd.func12, Tryd.ntmps12
  go_wp2_with fail
  refine calls_nm fun W hW => ?_
  have hbW : Below w.heap.size w W := by rw [← hW]; exact kp_alloc (kp_alloc (kp_alloc (Below.refl _ _) _) _) _
  have g0 : W.heap[w.heap.size]? = some (.cells #[.int .i64 1, .int .i64 np, .int .i64 pt, .slice K kn kc, .slice V vn vc] 24) := by rw [← hW]; exact has_alloc (has_alloc (has_new _ _) _) _
  have g1 : W.heap[w.heap.size + 1]? = some (.cells #[.slice none 0 0, .int .i64 0, .bool false, .int .i64 0] 36) := by rw [← hW]; exact has_alloc (has_new' _ _ _ (by simp)) _
  have g2 : W.heap[w.heap.size + 1 + 1]? = some (.cells #[.slice none 0 0, .int .i64 0, .bool false, .int .i64 0] 36) := by rw [← hW]; exact has_new' _ _ _ (by simp)
  have HKW := Lib.hid (HK.out.below hbW)
  have HTW := Lib.hid (HT.out.below hbW)
  clear hW
  refine (ready_all HKW.out HP.out).mono ?_
  rintro e w1 ⟨r, rfl, hda⟩
  have hl := HL.out
  obtain ⟨T1, q1, q2, hfar⟩ := hda
  have k1 := hfar.has g1 (by omega) (by omega)
  have k2 := hfar.has g2 (by omega) (by omega)
  have HDA : Hid (DA base b g a c S w w1) := DA.pre hbW ⟨T1, q1, q2, hfar⟩
  obtain ⟨y0, y1, y2, y3⟩ := cells_4 k2
  obtain ⟨z0, z1, z2, z3⟩ := free_4 k2
  obtain ⟨u0, u1, u2, u3⟩ := free_4 k1
  obtain ⟨x0, x1, x2, x3⟩ := cells_4 k1
  have K1 := Lib.hid k1
  clear k1 k2 q1 q2 hfar hbW g0 g1 g2 hl
  go_wp2
  refine bodyPost_ret (results_ct Tryd.results12 _ (LV.agg (set_4 (has_set (k := w.heap.size + 1 + 1) (j := 3) (u := .int .i64 r) K1.out (by omega))) Tryd.underlying36 rfl (by kernel_rfl))) rfl ?_
  exact ⟨⟨_, rfl⟩, DA.set (DA.set (DA.set (DA.set (DA.set HDA.out HL.out (by omega)) HL.out (by omega)) HL.out (by omega)) HL.out (by omega)) HL.out (by omega)⟩
set_option maxHeartbeats 4000000 in
theorem does8_5 (hv : Tabs v) (hvb : v.heap.size ≤ base) (hvw : Below v.heap.size v w) (hK : BK w base b g a c S 0 4) (hp : Pre4 S) (np pt : Int) (hnp : np ≤ 9223372036854775807) (K V : Option Addr) (kn kc vn vc : Nat) :
    Calls Tryd.prog 12 #[.pointer (some ⟨g, 0, none⟩), .pointer (some ⟨b, 0, none⟩), .agg #[.int .i64 5, .int .i64 np, .int .i64 pt, .slice K kn kc, .slice V vn vc]] w (DoesA base b g a c S w) := by
  have HT := Lib.hid (hv.below hvw)
  have HV0 := Lib.hid (And.intro hv (And.intro hvb hvw))
  have HL := Lib.hid hK.lts
  have HK := Lib.hid hK
  have HP := Lib.hid hp
  clear hK hp
  go_enter Tryd.func12, Tryd.ntmps12
  go_wp2_with fail
  refine calls_nm fun W hW => ?_
  have hbW : Below w.heap.size w W := by rw [← hW]; exact kp_alloc (kp_alloc (kp_alloc (Below.refl _ _) _) _) _
  have g0 : W.heap[w.heap.size]? = some (.cells #[.int .i64 5, .int .i64 np, .int .i64 pt, .slice K kn kc, .slice V vn vc] 24) := by rw [← hW]; exact has_alloc (has_alloc (has_new _ _) _) _
  have g1 : W.heap[w.heap.size + 1]? = some (.cells #[.slice none 0 0, .int .i64 0, .bool false, .int .i64 0] 36) := by rw [← hW]; exact has_alloc (has_new' _ _ _ (by simp)) _
  have g2 : W.heap[w.heap.size + 1 + 1]? = some (.cells #[.slice none 0 0, .int .i64 0, .bool false, .int .i64 0] 36) := by rw [← hW]; exact has_new' _ _ _ (by simp)
  have HKW := Lib.hid (HK.out.below hbW)
  have HTW := Lib.hid (HT.out.below hbW)
  clear hW
  refine (kill_all HTW.out HKW.out HP.out _).mono ?_
  rintro e w1 ⟨r, rfl, hda⟩
  have hl := HL.out
  obtain ⟨T1, q1, q2, hfar⟩ := hda
  have k1 := hfar.has g1 (by omega) (by omega)
  have k2 := hfar.has g2 (by omega) (by omega)
  have HDA : Hid (DA base b g a c S w w1) := DA.pre hbW ⟨T1, q1, q2, hfar⟩
  obtain ⟨y0, y1, y2, y3⟩ := cells_4 k2
  obtain ⟨z0, z1, z2, z3⟩ := free_4 k2
  obtain ⟨u0, u1, u2, u3⟩ := free_4 k1
  obtain ⟨x0, x1, x2, x3⟩ := cells_4 k1
  have K1 := Lib.hid k1
  clear k1 k2 q1 q2 hfar hbW g0 g1 g2 hl
  go_wp2
  refine bodyPost_ret (results_ct Tryd.results12 _ (LV.agg (set_4 (has_set (k := w.heap.size + 1 + 1) (j := 3) (u := .int .i64 r) K1.out (by omega))) Tryd.underlying36 rfl (by kernel_rfl))) rfl ?_
  exact ⟨⟨_, rfl⟩, DA.set (DA.set (DA.set (DA.set (DA.set HDA.out HL.out (by omega)) HL.out (by omega)) HL.out (by omega)) HL.out (by omega)) HL.out (by omega)⟩
set_option maxHeartbeats 4000000 in
theorem does8_6 (hv : Tabs v) (hvb : v.heap.size ≤ base) (hvw : Below v.heap.size v w) (hK : BK w base b g a c S 0 4) (hp : Pre4 S) (np pt : Int) (hnp : np ≤ 9223372036854775807) (K V : Option Addr) (kn kc vn vc : Nat) :
    Calls Tryd.prog 12 #[.pointer (some ⟨g, 0, none⟩), .pointer (some ⟨b, 0, none⟩), .agg #[.int .i64 6, .int .i64 np, .int .i64 pt, .slice K kn kc, .slice V vn vc]] w (DoesA base b g a c S w) := by
  have HT := Lib.hid (hv.below hvw)
  have HV0 := Lib.hid (And.intro hv (And.intro hvb hvw))
  have HL := Lib.hid hK.lts
  have HK := Lib.hid hK
  have HP := Lib.hid hp
  clear hK hp
  go_enter Tryd.func12, Tryd.ntmps12
  go_wp2_with fail
  refine calls_nm fun W hW => ?_
  have hbW : Below w.heap.size w W := by rw [← hW]; exact kp_alloc (kp_alloc (kp_alloc (Below.refl _ _) _) _) _
  have g0 : W.heap[w.heap.size]? = some (.cells #[.int .i64 6, .int .i64 np, .int .i64 pt, .slice K kn kc, .slice V vn vc] 24) := by rw [← hW]; exact has_alloc (has_alloc (has_new _ _) _) _
  have g1 : W.heap[w.heap.size + 1]? = some (.cells #[.slice none 0 0, .int .i64 0, .bool false, .int .i64 0] 36) := by rw [← hW]; exact has_alloc (has_new' _ _ _ (by simp)) _
  have g2 : W.heap[w.heap.size + 1 + 1]? = some (.cells #[.slice none 0 0, .int .i64 0, .bool false, .int .i64 0] 36) := by rw [← hW]; exact has_new' _ _ _ (by simp)
  have HKW := Lib.hid (HK.out.below hbW)
  have HTW := Lib.hid (HT.out.below hbW)
  clear hW
  refine (arm_all8 HKW.out _ _ hnp).mono ?_
  rintro e w1 ⟨r, rfl, hda⟩
  have hl := HL.out
  obtain ⟨T1, q1, q2, hfar⟩ := hda
  have k1 := hfar.has g1 (by omega) (by omega)
  have k2 := hfar.has g2 (by omega) (by omega)
  have HDA : Hid (DA base b g a c S w w1) := DA.pre hbW ⟨T1, q1, q2, hfar⟩
  obtain ⟨y0, y1, y2, y3⟩ := cells_4 k2
  obtain ⟨z0, z1, z2, z3⟩ := free_4 k2
  obtain ⟨u0, u1, u2, u3⟩ := free_4 k1
  obtain ⟨x0, x1, x2, x3⟩ := cells_4 k1
  have K1 := Lib.hid k1
  clear k1 k2 q1 q2 hfar hbW g0 g1 g2 hl
  go_wp2
  refine bodyPost_ret (results_ct Tryd.results12 _ (LV.agg (set_4 (has_set (k := w.heap.size + 1 + 1) (j := 3) (u := .int .i64 r) K1.out (by omega))) Tryd.underlying36 rfl (by kernel_rfl))) rfl ?_
  exact ⟨⟨_, rfl⟩, DA.set (DA.set (DA.set (DA.set (DA.set HDA.out HL.out (by omega)) HL.out (by omega)) HL.out (by omega)) HL.out (by omega)) HL.out (by omega)⟩
set_option maxHeartbeats 4000000 in
theorem does8_7 (hv : Tabs v) (hvb : v.heap.size ≤ base) (hvw : Below v.heap.size v w) (hK : BK w base b g a c S 0 4) (hp : Pre4 S) (np pt : Int) (hnp : np ≤ 9223372036854775807) (K V : Option Addr) (kn kc vn vc : Nat) :
    Calls Tryd.prog 12 #[.pointer (some ⟨g, 0, none⟩), .pointer (some ⟨b, 0, none⟩), .agg #[.int .i64 7, .int .i64 np, .int .i64 pt, .slice K kn kc, .slice V vn vc]] w (DoesA base b g a c S w) := by
  have HT := Lib.hid (hv.below hvw)
  have HV0 := Lib.hid (And.intro hv (And.intro hvb hvw))
  have HL := Lib.hid hK.lts
  have HK := Lib.hid hK
  have HP := Lib.hid hp
  clear hK hp
  go_enter Tryd.func12, Tryd.ntmps12
  go_wp2_with fail
  refine calls_nm fun W hW => ?_
  have hbW : Below w.heap.size w W := by rw [← hW]; exact kp_alloc (kp_alloc (kp_alloc (Below.refl _ _) _) _) _
  have g0 : W.heap[w.heap.size]? = some (.cells #[.int .i64 7, .int .i64 np, .int .i64 pt, .slice K kn kc, .slice V vn vc] 24) := by rw [← hW]; exact has_alloc (has_alloc (has_new _ _) _) _
  have g1 : W.heap[w.heap.size + 1]? = some (.cells #[.slice none 0 0, .int .i64 0, .bool false, .int .i64 0] 36) := by rw [← hW]; exact has_alloc (has_new' _ _ _ (by simp)) _
  have g2 : W.heap[w.heap.size + 1 + 1]? = some (.cells #[.slice none 0 0, .int .i64 0, .bool false, .int .i64 0] 36) := by rw [← hW]; exact has_new' _ _ _ (by simp)
  have HKW := Lib.hid (HK.out.below hbW)
  have HTW := Lib.hid (HT.out.below hbW)
  clear hW
  refine (on_all8 HKW.out).mono ?_
  rintro e w1 ⟨r, rfl, hda⟩
  have hl := HL.out
  obtain ⟨T1, q1, q2, hfar⟩ := hda
  have k1 := hfar.has g1 (by omega) (by omega)
  have k2 := hfar.has g2 (by omega) (by omega)
  have HDA : Hid (DA base b g a c S w w1) := DA.pre hbW ⟨T1, q1, q2, hfar⟩
  obtain ⟨y0, y1, y2, y3⟩ := cells_4 k2
  obtain ⟨z0, z1, z2, z3⟩ := free_4 k2
  obtain ⟨u0, u1, u2, u3⟩ := free_4 k1
  obtain ⟨x0, x1, x2, x3⟩ := cells_4 k1
  have K1 := Lib.hid k1
  clear k1 k2 q1 q2 hfar hbW g0 g1 g2 hl
  go_wp2
  refine bodyPost_ret (results_ct Tryd.results12 _ (LV.agg (set_4 (has_set (k := w.heap.size + 1 + 1) (j := 3) (u := .int .i64 r) K1.out (by omega))) Tryd.underlying36 rfl (by kernel_rfl))) rfl ?_
  exact ⟨⟨_, rfl⟩, DA.set (DA.set (DA.set (DA.set (DA.set HDA.out HL.out (by omega)) HL.out (by omega)) HL.out (by omega)) HL.out (by omega)) HL.out (by omega)⟩
set_option maxHeartbeats 4000000 in
theorem does8_2 (hv : Tabs v) (hvb : v.heap.size ≤ base) (hvw : Below v.heap.size v w) (hK : BK w base b g a c S 0 4) (hp : Pre4 S) (np pt : Int) (hnp : np ≤ 9223372036854775807) (K V : Option Addr) (kn kc vn vc : Nat) :
    Calls Tryd.prog 12 #[.pointer (some ⟨g, 0, none⟩), .pointer (some ⟨b, 0, none⟩), .agg #[.int .i64 2, .int .i64 np, .int .i64 pt, .slice K kn kc, .slice V vn vc]] w (DoesA base b g a c S w) := by
  have HT := Lib.hid (hv.below hvw)
  have HV0 := Lib.hid (And.intro hv (And.intro hvb hvw))
  have HL := Lib.hid hK.lts
  have HK := Lib.hid hK
  have HP := Lib.hid hp
  clear hK hp
  go_enter Tryd.func12, Tryd.ntmps12
  go_wp2_with fail
  refine calls_nm fun W hW => ?_
  have hbW : Below w.heap.size w W := by rw [← hW]; exact kp_alloc (kp_alloc (kp_alloc (Below.refl _ _) _) _) _
  have g0 : W.heap[w.heap.size]? = some (.cells #[.int .i64 2, .int .i64 np, .int .i64 pt, .slice K kn kc, .slice V vn vc] 24) := by rw [← hW]; exact has_alloc (has_alloc (has_new _ _) _) _
  have g1 : W.heap[w.heap.size + 1]? = some (.cells #[.slice none 0 0, .int .i64 0, .bool false, .int .i64 0] 36) := by rw [← hW]; exact has_alloc (has_new' _ _ _ (by simp)) _
  have g2 : W.heap[w.heap.size + 1 + 1]? = some (.cells #[.slice none 0 0, .int .i64 0, .bool false, .int .i64 0] 36) := by rw [← hW]; exact has_new' _ _ _ (by simp)
  have HKW := Lib.hid (HK.out.below hbW)
  have HTW := Lib.hid (HT.out.below hbW)
  clear hW
  refine (head_all HTW.out HKW.out).mono ?_
  rintro e w1 ⟨q, rd, r, rfl, hb1⟩
  have k1 := has_below g1 hb1
  have HDA : Hid (DA base b g a c S w w1) := DA.pre hbW (DA.of HKW.out hb1)
  obtain ⟨u0, u1, u2, u3⟩ := free_4 k1
  obtain ⟨x0, x1, x2, x3⟩ := cells_4 k1
  have K1 := Lib.hid k1
  clear k1 hb1 hbW g0 g1 g2
  go_wp2
  refine bodyPost_ret (results_ct Tryd.results12 _ (LV.agg (set_4 K1.out) Tryd.underlying36 rfl (by kernel_rfl))) rfl ?_
  exact ⟨⟨_, rfl⟩, DA.set (DA.set (DA.set (DA.set HDA.out HL.out (by omega)) HL.out (by omega)) HL.out (by omega)) HL.out (by omega)⟩
set_option maxHeartbeats 4000000 in
theorem does8_3 (hv : Tabs v) (hvb : v.heap.size ≤ base) (hvw : Below v.heap.size v w) (hK : BK w base b g a c S 0 4) (hp : Pre4 S) (np pt : Int) (hnp : np ≤ 9223372036854775807) (K V : Option Addr) (kn kc vn vc : Nat) :
    Calls Tryd.prog 12 #[.pointer (some ⟨g, 0, none⟩), .pointer (some ⟨b, 0, none⟩), .agg #[.int .i64 3, .int .i64 np, .int .i64 pt, .slice K kn kc, .slice V vn vc]] w (DoesA base b g a c S w) := by
  have HT := Lib.hid (hv.below hvw)
  have HV0 := Lib.hid (And.intro hv (And.intro hvb hvw))
  have HL := Lib.hid hK.lts
  have HK := Lib.hid hK
  have HP := Lib.hid hp
  clear hK hp
  go_enter Tryd.func12, Tryd.ntmps12
  go_wp2_with fail
  refine calls_nm fun W hW => ?_
  have hbW : Below w.heap.size w W := by rw [← hW]; exact kp_alloc (kp_alloc (kp_alloc (Below.refl _ _) _) _) _
  have g0 : W.heap[w.heap.size]? = some (.cells #[.int .i64 3, .int .i64 np, .int .i64 pt, .slice K kn kc, .slice V vn vc] 24) := by rw [← hW]; exact has_alloc (has_alloc (has_new _ _) _) _
  have g1 : W.heap[w.heap.size + 1]? = some (.cells #[.slice none 0 0, .int .i64 0, .bool false, .int .i64 0] 36) := by rw [← hW]; exact has_alloc (has_new' _ _ _ (by simp)) _
  have g2 : W.heap[w.heap.size + 1 + 1]? = some (.cells #[.slice none 0 0, .int .i64 0, .bool false, .int .i64 0] 36) := by rw [← hW]; exact has_new' _ _ _ (by simp)
  have HKW := Lib.hid (HK.out.below hbW)
  have HTW := Lib.hid (HT.out.below hbW)
  clear hW
  refine (scan_all HTW.out HKW.out HP.out).mono ?_
  rintro e w1 ⟨A1, n1, c1, q, wh, r, ys, rfl, ho, hs, hn, hlim, hb1⟩
  have RC := Lib.hid (recs8_any W.heap.size A1 n1 c1 ys w1 ho hs hb1.size hn hlim)
  have HB1 := Lib.hid hb1
  clear ho hs hn hlim hb1
  go_wp2_with fail
  refine RC.out.mono ?_
  rintro e w2 ⟨B, d, ds, rfl, hD, hpl, hb2⟩
  have hbb : Below W.heap.size W w2 := HB1.out.trans hb2
  have k1 := has_below g1 hbb
  have HDA : Hid (DA base b g a c S w w2) := DA.pre hbW (DA.of HKW.out hbb)
  obtain ⟨u0, u1, u2, u3⟩ := free_4 k1
  obtain ⟨x0, x1, x2, x3⟩ := cells_4 k1
  have K1 := Lib.hid k1
  clear k1 hbb hb2 hD hpl hbW g0 g1 g2 RC HB1
  go_wp2
  refine bodyPost_ret (results_ct Tryd.results12 _ (LV.agg (set_4 K1.out) Tryd.underlying36 rfl (by kernel_rfl))) rfl ?_
  exact ⟨⟨_, rfl⟩, DA.set (DA.set (DA.set (DA.set HDA.out HL.out (by omega)) HL.out (by omega)) HL.out (by omega)) HL.out (by omega)⟩
theorem does8_o (hK : BK w base b g a c S 0 4) (kd np pt : Int) (K V : Option Addr) (kn kc vn vc : Nat) (hkd : ¬ (0 ≤ kd ∧ kd ≤ 8)) :
    Calls Tryd.prog 12 #[.pointer (some ⟨g, 0, none⟩), .pointer (some ⟨b, 0, none⟩), .agg #[.int .i64 kd, .int .i64 np, .int .i64 pt, .slice K kn kc, .slice V vn vc]] w (DoesA base b g a c S w) := by
  have HK := Lib.hid hK
  clear hK
  have t0 : (kd == 0) = false := beq_eq_false_iff_ne.2 (by omega)
  have t1 : (kd == 1) = false := beq_eq_false_iff_ne.2 (by omega)
  have t2 : (kd == 2) = false := beq_eq_false_iff_ne.2 (by omega)
  have t3 : (kd == 3) = false := beq_eq_false_iff_ne.2 (by omega)
  have t4 : (kd == 4) = false := beq_eq_false_iff_ne.2 (by omega)
  have t5 : (kd == 5) = false := beq_eq_false_iff_ne.2 (by omega)
  have t6 : (kd == 6) = false := beq_eq_false_iff_ne.2 (by omega)
  have t7 : (kd == 7) = false := beq_eq_false_iff_ne.2 (by omega)
  have t8 : (kd == 8) = false := beq_eq_false_iff_ne.2 (by omega)
  go_enter Tryd.func12, Tryd.ntmps12
  go_wp2
  refine bodyPost_ret (results_ct Tryd.results12 _ (LV.agg (has_alloc (has_new' _ _ _ (by simp)) _) Tryd.underlying36 rfl (by kernel_rfl))) rfl ?_
  exact ⟨⟨_, rfl⟩, DA.of HK.out (kp_alloc (kp_alloc (kp_alloc (Below.refl _ _) _) _) _)⟩
end
end Go.Proofs.YtkajlbdiofobcaaDoor
namespace Go.Proofs.YtkajlbdiofobcaaDoor
open Go.RowKit Go
set_option linter.unusedVariables false
set_option linter.unusedSimpArgs false
set_option maxRecDepth 100000
theorem put_43q {w : World} {g : Nat} {t : TypeId} {a0 a1 a2 a3 u : Value} (h : w.heap[g]? = some (.cells #[a0, a1, a2, a3] t)) : (w.setCell ⟨g, 3, none⟩ u).heap[g]? = some (.cells #[a0, a1, a2, u] t) := by
  simp [World.setCell, Array.getElem?_modify, h]
section
variable {base b g a c F C : Nat} {S : FS} {w w' v : World}
set_option maxHeartbeats 16000000 in
theorem does8_4 (hv : Tabs v) (hvb : v.heap.size ≤ base) (hvw : Below v.heap.size v w) (hK : BK w base b g a c S 0 4) (hp : Pre4 S) (np pt : Int) (hnp : np ≤ 9223372036854775807) (K V : Option Addr) (kn kc vn vc : Nat) (key val : List UInt8) (hK0 : RB w K kn key) (hV0 : RB w V vn val) (hk : kn ≤ 1000000000) (hn : vn ≤ 1000000000) (hKn : key ≠ [] → ∀ d, K = some d → d.block ≠ g ∧ d.block ≠ a) (hVn : val ≠ [] → ∀ d, V = some d → d.block ≠ g ∧ d.block ≠ a) :
    Calls Tryd.prog 12 #[.pointer (some ⟨g, 0, none⟩), .pointer (some ⟨b, 0, none⟩), .agg #[.int .i64 4, .int .i64 np, .int .i64 pt, .slice K kn kc, .slice V vn vc]] w (DoesA base b g a c S w) := by
  have HT := Lib.hid (hv.below hvw)
  have HV0 := Lib.hid (And.intro hv (And.intro hvb hvw))
  have HK9 := Lib.hid hK0
  have HV9 := Lib.hid hV0
  have HKn := Lib.hid hKn
  have HVn := Lib.hid hVn
  clear hK0 hV0 hKn hVn
  have HL := Lib.hid hK.lts
  have HK := Lib.hid hK
  have HP := Lib.hid hp
  clear hK hp
  go_enter Tryd.func12, Tryd.ntmps12
  go_wp2_with fail
  refine calls_nm fun W hW => ?_
  have hbW : Below w.heap.size w W := by rw [← hW]; exact kp_alloc (kp_alloc (kp_alloc (Below.refl _ _) _) _) _
  have g0 : W.heap[w.heap.size]? = some (.cells #[.int .i64 4, .int .i64 np, .int .i64 pt, .slice K kn kc, .slice V vn vc] 24) := by rw [← hW]; exact has_alloc (has_alloc (has_new _ _) _) _
  have g1 : W.heap[w.heap.size + 1]? = some (.cells #[.slice none 0 0, .int .i64 0, .bool false, .int .i64 0] 36) := by rw [← hW]; exact has_alloc (has_new' _ _ _ (by simp)) _
  have g2 : W.heap[w.heap.size + 1 + 1]? = some (.cells #[.slice none 0 0, .int .i64 0, .bool false, .int .i64 0] 36) := by rw [← hW]; exact has_new' _ _ _ (by simp)
  have HKW := Lib.hid (HK.out.below hbW)
  have HTW := Lib.hid (HT.out.below hbW)
  clear hW
  have hWs := block_lt g2
  refine (twin8_any K kn kc key _ (HK9.out.below hbW) hk).mono ?_
  rintro e w1 ⟨A1, n1, c1, rfl, ho1, hb1⟩
  obtain rfl : n1 = kn := ho1.len.symm.trans HK9.out.1
  have a0 := has_below g0 hb1
  have a1 := has_below g1 hb1
  have a2 := has_below g2 hb1
  obtain ⟨b0, b1, b2, b3, b4⟩ := cells_5 a0
  have BL1 := Lib.hid (kp_call hbW hb1)
  have A0 := Lib.hid a0
  have A1' := Lib.hid a1
  have A2' := Lib.hid a2
  have HO1 := Lib.hid ho1
  have HWs := Lib.hid hWs
  have hsz1 : Hid (W.heap.size ≤ w1.heap.size) := hb1.size
  have BW1 := Lib.hid hb1
  clear a0 a1 a2 ho1 hb1 g0 g1 g2 hWs
  go_wp2_with fail
  refine (twin8_any V vn vc val _ (HV9.out.below BL1.out) hn).mono ?_
  rintro e w2 ⟨A2, n2, c2, rfl, ho2, hb2⟩
  obtain rfl : n2 = vn := ho2.len.symm.trans HV9.out.1
  have a0 := has_below A0.out hb2
  have a1 := has_below A1'.out hb2
  have a2 := has_below A2'.out hb2
  have BL2 := Lib.hid (kp_call BL1.out hb2)
  have HO1b := Lib.hid (HO1.out.below hb2 (Nat.le_refl _))
  have HO2 := Lib.hid ho2
  have D0 := Lib.hid a0
  have D1 := Lib.hid a1
  have D2 := Lib.hid a2
  have hl := HL.out
  have N1 : Hid (key ≠ [] → ∀ d, A1 = some d → d.block ≠ g ∧ d.block ≠ a) := fun _ d hd => by
    subst hd; have := (HO1b.out.blk_lt rfl).1; have := hbW.size; omega
  have N2 : Hid (val ≠ [] → ∀ d, A2 = some d → d.block ≠ g ∧ d.block ≠ a) := fun _ d hd => by
    subst hd; have := (HO2.out.blk_lt rfl).1; have := BL1.out.size; omega
  have AD := Lib.hid (add_all HV0.out.1 HV0.out.2.1 (kp_call HV0.out.2.2 BL2.out) (HK.out.below BL2.out) HP.out A1 A2 n1 c1 n2 c2 key val HO1b.out.rb HO2.out.rb N1.out N2.out)
  clear b0 b1 b2 b3 b4 a0 a1 a2 ho2 hb2 A0 A1' A2' BL1 HO1
  go_wp2_with fail
  refine AD.out.mono ?_
  rintro e w3 ⟨r, rfl, hda⟩
  obtain ⟨T1, q1, q2, hfar⟩ := hda
  have d0 := hfar.has D0.out (by omega) (by omega)
  have d1 := hfar.has D1.out (by omega) (by omega)
  have d2 := hfar.has D2.out (by omega) (by omega)
  have HDA3 : Hid (DA base b g a c S w w3) := DA.pre BL2.out ⟨T1, q1, q2, hfar⟩
  have RA1 := Lib.hid (rb_far HO1b.out.rb hfar N1.out)
  have RA2 := Lib.hid (rb_far HO2.out.rb hfar N2.out)
  have RK3 := Lib.hid (rb_far (HK9.out.below BL2.out) hfar HKn.out)
  have RV3 := Lib.hid (rb_far (HV9.out.below BL2.out) hfar HVn.out)
  obtain ⟨y0, y1, y2, y3⟩ := cells_4 d2
  obtain ⟨z0, z1, z2, z3⟩ := free_4 d2
  have D0' := Lib.hid d0
  have D1' := Lib.hid d1
  have D2' := Lib.hid d2
  have L2 := Lib.hid (block_lt d2)
  clear AD d0 d1 d2 q1 q2 hfar hl
  go_upto_region 17 with (fail)
  refine wp_nm fun W4 hW4 => ?_
  have hs4 : ∀ {A : Option Addr} {n : Nat} {bs : List UInt8}, RB w3 A n bs → (bs ≠ [] → ∀ d, A = some d → d.block ≠ w.heap.size + 1 + 1) → RB W4 A n bs := fun {A n bs} h hne => by
    rw [← hW4]
    refine ⟨h.1, fun hnb => ?_⟩
    obtain ⟨bb, off, e1, hbb, hc⟩ := h.2 hnb
    have hn9 := hne hnb _ e1
    refine ⟨bb, off, e1, by simpa [World.setCell] using hbb, fun j hj => ?_⟩
    rw [World.cell?_setCell_other]
    · exact hc j hj
    · intro e2; injection e2 with e2; exact hn9 e2.symm
  have E0 : Hid (W4.heap[w.heap.size]? = some (.cells #[.int .i64 4, .int .i64 np, .int .i64 pt, .slice K n1 kc, .slice V n2 vc] 24)) := by rw [← hW4]; exact has_set D0'.out (by omega)
  have E1 : Hid (W4.heap[w.heap.size + 1]? = some (.cells #[.slice none 0 0, .int .i64 0, .bool false, .int .i64 0] 36)) := by rw [← hW4]; exact has_set D1'.out (by omega)
  have E2 : Hid (W4.heap[w.heap.size + 1 + 1]? = some (.cells #[.slice none 0 0, .int .i64 0, .bool false, .int .i64 r] 36)) := by rw [← hW4]; exact put_43q D2'.out
  have DA4 : Hid (DA base b g a c S w W4) := by rw [← hW4]; exact DA.set HDA3.out HL.out (by omega)
  have R1 : Hid (RB W4 A1 n1 key) := hs4 RA1.out (fun _ d hd => by subst hd; have := (HO1b.out.blk_lt rfl).1; have := HWs.out; omega)
  have R2 : Hid (RB W4 A2 n2 val) := hs4 RA2.out (fun _ d hd => by subst hd; have := (HO2.out.blk_lt rfl).1; have := HWs.out; have := hsz1.out; omega)
  have R3 : Hid (RB W4 K n1 key) := hs4 RK3.out (fun hne d hd => by obtain ⟨bb, off, e1, hbb, _⟩ := HK9.out.2 hne; rw [hd] at e1; injection e1 with e1; rw [e1]; show bb ≠ _; omega)
  have R4 : Hid (RB W4 V n2 val) := hs4 RV3.out (fun hne d hd => by obtain ⟨bb, off, e1, hbb, _⟩ := HV9.out.2 hne; rw [hd] at e1; injection e1 with e1; rw [e1]; show bb ≠ _; omega)
  have DR4 : Hid (DA base b g a c S w W4.drew) := DA.below DA4.out (kp_drew (Below.refl _ _))
  have KEEP : Hid (∀ X, (X.heap[w.heap.size]? = some (.cells #[.int .i64 4, .int .i64 np, .int .i64 pt, .slice K n1 kc, .slice V n2 vc] 24) ∧ X.heap[w.heap.size + 1 + 1]? = some (.cells #[.slice none 0 0, .int .i64 0, .bool false, .int .i64 r] 36) ∧ DA base b g a c S w X) → (X.cell? ⟨w.heap.size, 3, none⟩ = some (.slice K n1 kc) ∧ X.cell? ⟨w.heap.size, 4, none⟩ = some (.slice V n2 vc) ∧ X.cell? ⟨w.heap.size + 1 + 1, 0, none⟩ = some (.slice none 0 0) ∧ X.cell? ⟨w.heap.size + 1 + 1, 1, none⟩ = some (.int .i64 0) ∧ X.cell? ⟨w.heap.size + 1 + 1, 2, none⟩ = some (.bool false) ∧ X.cell? ⟨w.heap.size + 1 + 1, 3, none⟩ = some (.int .i64 r)) ∧ X.heap[w.heap.size]? = some (.cells #[.int .i64 4, .int .i64 np, .int .i64 pt, .slice K n1 kc, .slice V n2 vc] 24) ∧ X.heap[w.heap.size + 1 + 1]? = some (.cells #[.slice none 0 0, .int .i64 0, .bool false, .int .i64 r] 36) ∧ DA base b g a c S w X) := fun X hX => by
    obtain ⟨a0, a1, a2, a3, a4⟩ := cells_5 hX.1
    obtain ⟨c0, c1, c2, c3⟩ := cells_4 hX.2.1
    exact ⟨⟨a3, a4, c0, c1, c2, c3⟩, hX⟩
  clear hW4 hs4 y0 y1 y2 y3 z0 z1 z2 z3 D0 D1 D2 D0' D1' D2' HO1b HO2 RA1 RA2 RK3 RV3 HDA3
  go_region_held3 (fun X => (X.cell? ⟨w.heap.size, 3, none⟩ = some (.slice K n1 kc) ∧ X.cell? ⟨w.heap.size, 4, none⟩ = some (.slice V n2 vc) ∧ X.cell? ⟨w.heap.size + 1 + 1, 0, none⟩ = some (.slice none 0 0) ∧ X.cell? ⟨w.heap.size + 1 + 1, 1, none⟩ = some (.int .i64 0) ∧ X.cell? ⟨w.heap.size + 1 + 1, 2, none⟩ = some (.bool false) ∧ X.cell? ⟨w.heap.size + 1 + 1, 3, none⟩ = some (.int .i64 r)) ∧ X.heap[w.heap.size]? = some (.cells #[.int .i64 4, .int .i64 np, .int .i64 pt, .slice K n1 kc, .slice V n2 vc] 24) ∧ X.heap[w.heap.size + 1 + 1]? = some (.cells #[.slice none 0 0, .int .i64 0, .bool false, .int .i64 r] 36) ∧ DA base b g a c S w X)
    ((apply KEEP.out; with_reducible first | assumption | exact ⟨has_drew E0.out, has_drew E2.out, DR4.out⟩ | exact hX1 | exact hX2 | exact ⟨has_set (has_set (has_set (has_set hX2.1 (by omega)) (by omega)) (by omega)) (by omega), has_set (has_set (has_set (has_set hX2.2.1 (by omega)) (by omega)) (by omega)) (by omega), DA.set (DA.set (DA.set (DA.set hX2.2.2 HL.out (by omega)) HL.out (by omega)) HL.out (by omega)) HL.out (by omega)⟩))
    (first
      | (go_at_call 28; (with_reducible refine (same7_one A1 K n1 c1 kc key W4.drew R1.out.drew R3.out.drew hk).mono ?_); (rintro e X1 ⟨rfl, hb1⟩; have hX1 : X1.heap[w.heap.size]? = some (.cells #[.int .i64 4, .int .i64 np, .int .i64 pt, .slice K n1 kc, .slice V n2 vc] 24) ∧ X1.heap[w.heap.size + 1 + 1]? = some (.cells #[.slice none 0 0, .int .i64 0, .bool false, .int .i64 r] 36) ∧ DA base b g a c S w X1 := ⟨has_below (has_drew E0.out) hb1, has_below (has_drew E2.out) hb1, DA.below DR4.out hb1⟩; have g1 := has_below (has_drew E1.out) hb1; have r2 := R2.out.drew.below hb1; have HR2 := Lib.hid r2; have HR4 := Lib.hid (R4.out.drew.below hb1); clear r2))
      | (go_at_call 28; (with_reducible refine (same7_one A2 V n2 c2 vc val X1 HR2.out HR4.out hn).mono ?_); (rintro e X2 ⟨rfl, hb2⟩; have hX2 : X2.heap[w.heap.size]? = some (.cells #[.int .i64 4, .int .i64 np, .int .i64 pt, .slice K n1 kc, .slice V n2 vc] 24) ∧ X2.heap[w.heap.size + 1 + 1]? = some (.cells #[.slice none 0 0, .int .i64 0, .bool false, .int .i64 r] 36) ∧ DA base b g a c S w X2 := ⟨has_below hX1.1 hb2, has_below hX1.2.1 hb2, DA.below hX1.2.2 hb2⟩; have k1 := has_below g1 hb2; obtain ⟨x0, x1, x2, x3⟩ := cells_4 k1; obtain ⟨u0, u1, u2, u3⟩ := free_4 k1)))
  all_goals
    have HB := Lib.hid hX2.2.2
    have K1 := Lib.hid k1
    clear k1 g1 hX1 hX2 hb1 hb2
    go_wp2
    refine bodyPost_ret (results_ct Tryd.results12 _ (LV.agg (set_4 K1.out) Tryd.underlying36 rfl (by kernel_rfl))) rfl ?_
    exact ⟨⟨_, rfl⟩, DA.set (DA.set (DA.set (DA.set HB.out HL.out (by omega)) HL.out (by omega)) HL.out (by omega)) HL.out (by omega)⟩
/-- Whatever is done. -/
theorem does8_any (hv : Tabs v) (hvb : v.heap.size ≤ base) (hvw : Below v.heap.size v w) (hK : BK w base b g a c S 0 4) (hp : Pre4 S) (o : BOp) (hnp : o.np ≤ 9223372036854775807) (h8 : o.kd ≠ 8) (hK0 : RB w o.K o.kn o.key) (hV0 : RB w o.V o.vn o.val) (hk : o.kn ≤ 1000000000) (hn : o.vn ≤ 1000000000) (hKn : o.key ≠ [] → ∀ d, o.K = some d → d.block ≠ g ∧ d.block ≠ a) (hVn : o.val ≠ [] → ∀ d, o.V = some d → d.block ≠ g ∧ d.block ≠ a) :
    Calls Tryd.prog 12 #[.pointer (some ⟨g, 0, none⟩), .pointer (some ⟨b, 0, none⟩), .agg #[.int .i64 o.kd, .int .i64 o.np, .int .i64 o.pt, .slice o.K o.kn o.kc, .slice o.V o.vn o.vc]] w (DoesA base b g a c S w) := by
  obtain ⟨kd, np, pt, K, kn, kc, V, vn, vc, key, val⟩ := o
  simp only at hnp h8 hK0 hV0 hk hn hKn hVn ⊢
  by_cases h : 0 ≤ kd ∧ kd ≤ 8
  · obtain rfl | rfl | rfl | rfl | rfl | rfl | rfl | rfl : kd = 0 ∨ kd = 1 ∨ kd = 2 ∨ kd = 3 ∨ kd = 4 ∨ kd = 5 ∨ kd = 6 ∨ kd = 7 := by omega
    · exact does8_0 hv hvb hvw hK hp np pt hnp K V kn kc vn vc
    · exact does8_1 hv hvb hvw hK hp np pt hnp K V kn kc vn vc
    · exact does8_2 hv hvb hvw hK hp np pt hnp K V kn kc vn vc
    · exact does8_3 hv hvb hvw hK hp np pt hnp K V kn kc vn vc
    · exact does8_4 hv hvb hvw hK hp np pt hnp K V kn kc vn vc key val hK0 hV0 hk hn hKn hVn
    · exact does8_5 hv hvb hvw hK hp np pt hnp K V kn kc vn vc
    · exact does8_6 hv hvb hvw hK hp np pt hnp K V kn kc vn vc
    · exact does8_7 hv hvb hvw hK hp np pt hnp K V kn kc vn vc
  · exact does8_o hK kd np pt K V kn kc vn vc h
end
end Go.Proofs.YtkajlbdiofobcaaDoor
