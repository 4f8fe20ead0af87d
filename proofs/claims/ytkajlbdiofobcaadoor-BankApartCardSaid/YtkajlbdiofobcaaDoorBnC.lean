/-
  bank: adding, killing and formatting, as plain data.
-/
import Derived.Test.YtkajlbdiofobcaaDoorBnB
namespace Go.Proofs.YtkajlbdiofobcaaDoor
open Go.RowKit Go
set_option linter.unusedVariables false
set_option linter.unusedSimpArgs false
set_option maxRecDepth 100000
/-- The first 12 bytes of a head. -/
def headG (gen : Nat) : List UInt8 := ([76, 78, 84, 76] ++ leB gen 4) ++ leB (ext 0#32 ([76, 78, 84, 76] ++ leB gen 4)).toNat 4
theorem headG_len (gen : Nat) : (headG gen).length = 12 := by simp [headG, leB_len]
/-- The bytes of a bank. -/
def bankL (h : List UInt8) (rs : List RL) (k : Nat) : List UInt8 := h ++ layAll rs ++ List.replicate k 255
/-- What an Add makes of a flash. -/
def addQ (key val : List UInt8) (at_ : Nat) (S : FS) : FS × Int :=
  if (progQ [254] at_ S).2 = 0 then
    if (progQ (tailL key val) (at_ + 1) (progQ [254] at_ S).1).2 = 0 then progQ [252] at_ (progQ (tailL key val) (at_ + 1) (progQ [254] at_ S).1).1
    else progQ (tailL key val) (at_ + 1) (progQ [254] at_ S).1
  else progQ [254] at_ S
theorem progQ_ret (xs : List UInt8) (k : Nat) (S : FS) : (progQ xs k S).2 = 0 ∨ (progQ xs k S).2 = 6 := by
  rw [progQ_eq]; split
  · exact .inl rfl
  · exact .inr rfl
theorem progQ_off (xs : List UInt8) (k : Nat) (S : FS) (h : (progQ xs k S).2 = 0) : (progQ xs k S).1.off = S.off := by
  rw [progQ_eq] at h ⊢; split at h
  · rename_i h1; rw [if_pos h1]
  · exact absurd h (show ¬ (6 : Int) = 0 by decide)
theorem addQ_kept (key val : List UInt8) (k : Nat) (S : FS) : (addQ key val k S).1.n = S.n ∧ (addQ key val k S).1.s = S.s ∧ (addQ key val k S).1.wr ≤ S.wr + (13 + key.length + val.length) ∧ ((addQ key val k S).2 = 0 ∨ (addQ key val k S).2 = 6) := by
  obtain ⟨a1, a2, a3⟩ := progQ_kept [254] k S
  obtain ⟨b1, b2, b3⟩ := progQ_kept (tailL key val) (k + 1) (progQ [254] k S).1
  obtain ⟨c1, c2, c3⟩ := progQ_kept [252] k (progQ (tailL key val) (k + 1) (progQ [254] k S).1).1
  rw [tailL_len] at b3
  simp only [List.length_cons, List.length_nil] at a3 c3
  unfold addQ
  split
  · split
    · exact ⟨c1.trans (b1.trans a1), c2.trans (b2.trans a2), by omega, progQ_ret _ _ _⟩
    · exact ⟨b1.trans a1, b2.trans a2, by omega, progQ_ret _ _ _⟩
  · exact ⟨a1, a2, by omega, progQ_ret _ _ _⟩
theorem addQ_len (key val : List UInt8) (k : Nat) (S : FS) : (addQ key val k S).1.bs.length = S.bs.length := by
  have hp : ∀ (xs : List UInt8) (k : Nat) (S : FS), (progQ xs k S).1.bs.length = S.bs.length := by
    intro xs k S; rw [progQ_eq]; split <;> exact andAt_len _ _ _
  unfold addQ
  split
  · split
    · rw [hp, hp, hp]
    · rw [hp, hp]
  · rw [hp]
theorem progQ_drop (xs : List UInt8) (k m : Nat) (S : FS) (h : k + xs.length ≤ m) : (progQ xs k S).1.bs.drop m = S.bs.drop m := by
  rw [progQ_eq]; split
  · exact andAt_drop _ _ _ _ h
  · exact andAt_drop _ _ _ _ (by rw [List.length_take]; omega)
theorem addQ_drop (key val : List UInt8) (k m : Nat) (S : FS) (h : k + (12 + key.length + val.length) ≤ m) : (addQ key val k S).1.bs.drop m = S.bs.drop m := by
  have h1 := progQ_drop [254] k m S (by simp; omega)
  have h2 := progQ_drop (tailL key val) (k + 1) m (progQ [254] k S).1 (by rw [tailL_len]; omega)
  have h3 := progQ_drop [252] k m (progQ (tailL key val) (k + 1) (progQ [254] k S).1).1 (by simp; omega)
  unfold addQ
  split
  · split
    · rw [h3, h2, h1]
    · rw [h2, h1]
  · rw [h1]
/-- An Add that has room, on a bank that was laid: done, or cut so that the records are those ahead of it. -/
theorem addQ_laid (A h B : List UInt8) (rs : List RL) (k : Nat) (key val : List UInt8) (S : FS) (hS : S.bs = A ++ bankL h rs k ++ B) (hh : h.length = 16) (hk : 12 + key.length + val.length ≤ k) :
    ((S.left = 0 ∨ 13 + key.length + val.length < S.left) ∧ (addQ key val (A.length + (16 + (layAll rs).length)) S).2 = 0 ∧ (addQ key val (A.length + (16 + (layAll rs).length)) S).1 = { S with left := S.left - (13 + key.length + val.length), wr := S.wr + (13 + key.length + val.length), bs := A ++ bankL h (rs ++ [⟨key, val, true⟩]) (k - (12 + key.length + val.length)) ++ B }) ∨
    (0 < S.left ∧ S.left ≤ 13 + key.length + val.length ∧ (addQ key val (A.length + (16 + (layAll rs).length)) S).2 = 6 ∧ ∃ rest, rest.length = k ∧ recQ rest = none ∧ (addQ key val (A.length + (16 + (layAll rs).length)) S).1 = { S with off := true, left := 0, wr := S.wr + (S.left - 1), bs := A ++ (h ++ layAll rs ++ rest) ++ B }) := by
  obtain ⟨P, hP⟩ : ∃ P, A ++ h ++ layAll rs = P := ⟨_, rfl⟩
  have hPl : P.length = A.length + (16 + (layAll rs).length) := by rw [← hP, List.length_append, List.length_append, hh]; omega
  have e0 : S.bs = P ++ List.replicate k 255 ++ B := by rw [hS, ← hP]; simp [bankL]
  obtain ⟨T, hT⟩ : ∃ T, tailL key val = T := ⟨_, rfl⟩
  have hTl : T.length = 11 + key.length + val.length := by rw [← hT]; exact tailL_len _ _
  obtain ⟨k', rfl⟩ : ∃ k', k = k' + 1 := ⟨k - 1, by omega⟩
  have a1 : andAt S.bs P.length [254] = P ++ [254] ++ List.replicate k' 255 ++ B := by
    rw [e0, andAt_free [254] P B (k' + 1) (by simp)]; rfl
  have a2 : ∀ xs : List UInt8, xs.length ≤ k' → andAt (P ++ [254] ++ List.replicate k' 255 ++ B) (P.length + 1) xs = P ++ [254] ++ xs ++ List.replicate (k' - xs.length) 255 ++ B := fun xs hx => by
    have := andAt_free xs (P ++ [254]) B k' hx
    rw [List.length_append] at this
    exact this
  have a3 : andAt (P ++ [254] ++ T ++ List.replicate (k' - T.length) 255 ++ B) P.length [252] = P ++ [252] ++ T ++ List.replicate (k' - T.length) 255 ++ B := by
    have := andAt_one P (T ++ List.replicate (k' - T.length) 255 ++ B) 254 252
    rw [show (254 : UInt8) &&& 252 = 252 from rfl] at this
    simpa using this
  rw [← hPl]
  unfold addQ
  rw [hT]
  by_cases h0 : S.left = 0 ∨ 13 + key.length + val.length < S.left
  · left
    refine ⟨h0, ?_⟩
    have p1 : progQ [254] P.length S = ({ S with left := S.left - 1, wr := S.wr + 1, bs := P ++ [254] ++ List.replicate k' 255 ++ B }, 0) := by
      rw [progQ_eq, if_pos (by simp only [List.length_cons, List.length_nil]; omega), a1]; rfl
    rw [p1, if_pos rfl]
    have p2 : progQ T (P.length + 1) { S with left := S.left - 1, wr := S.wr + 1, bs := P ++ [254] ++ List.replicate k' 255 ++ B } = ({ S with left := S.left - 1 - T.length, wr := S.wr + 1 + T.length, bs := P ++ [254] ++ T ++ List.replicate (k' - T.length) 255 ++ B }, 0) := by
      rw [progQ_eq, if_pos (by show S.left - 1 = 0 ∨ T.length < S.left - 1; omega)]
      show ({ S with left := S.left - 1 - T.length, wr := S.wr + 1 + T.length, bs := andAt (P ++ [254] ++ List.replicate k' 255 ++ B) (P.length + 1) T }, _) = _
      rw [a2 T (by omega)]
    rw [p2, if_pos rfl]
    have p3 : progQ [252] P.length { S with left := S.left - 1 - T.length, wr := S.wr + 1 + T.length, bs := P ++ [254] ++ T ++ List.replicate (k' - T.length) 255 ++ B } = ({ S with left := S.left - 1 - T.length - 1, wr := S.wr + 1 + T.length + 1, bs := P ++ [252] ++ T ++ List.replicate (k' - T.length) 255 ++ B }, 0) := by
      rw [progQ_eq, if_pos (by show S.left - 1 - T.length = 0 ∨ 1 < S.left - 1 - T.length; omega)]
      show ({ S with left := S.left - 1 - T.length - 1, wr := S.wr + 1 + T.length + 1, bs := andAt (P ++ [254] ++ T ++ List.replicate (k' - T.length) 255 ++ B) P.length [252] }, _) = _
      rw [a3]
    rw [p3]
    refine ⟨rfl, ?_⟩
    simp only [FS.mk.injEq, true_and, and_true]
    refine ⟨?_, by omega, by omega⟩
    rw [← hP]
    unfold bankL
    rw [layAll_snoc, show k' + 1 - (12 + key.length + val.length) = k' - T.length by omega]
    unfold RL.lay RL.st
    rw [hT]
    simp
  · right
    refine ⟨by omega, by omega, ?_⟩
    by_cases h1 : S.left = 1
    · have p1 : progQ [254] P.length S = ({ S with off := true, left := 0, wr := S.wr + (S.left - 1), bs := S.bs }, 6) := by
        rw [progQ_eq, if_neg (by simp only [List.length_cons, List.length_nil]; omega), h1]; rfl
      rw [p1, if_neg (show ¬ (6 : Int) = 0 by decide)]
      refine ⟨rfl, List.replicate (k' + 1) 255, by simp, recQ_free _, ?_⟩
      rw [hS]
      rfl
    · have p1 : progQ [254] P.length S = ({ S with left := S.left - 1, wr := S.wr + 1, bs := P ++ [254] ++ List.replicate k' 255 ++ B }, 0) := by
        rw [progQ_eq, if_pos (by simp only [List.length_cons, List.length_nil]; omega), a1]; rfl
      rw [p1, if_pos rfl]
      by_cases h2 : S.left ≤ 1 + T.length
      · have hxl : (T.take (S.left - 1 - 1)).length = S.left - 1 - 1 := by rw [List.length_take]; omega
        have p2 : progQ T (P.length + 1) { S with left := S.left - 1, wr := S.wr + 1, bs := P ++ [254] ++ List.replicate k' 255 ++ B } = ({ S with off := true, left := 0, wr := S.wr + 1 + (S.left - 1 - 1), bs := P ++ [254] ++ T.take (S.left - 1 - 1) ++ List.replicate (k' - (T.take (S.left - 1 - 1)).length) 255 ++ B }, 6) := by
          rw [progQ_eq, if_neg (by show ¬ (S.left - 1 = 0 ∨ T.length < S.left - 1); omega)]
          show ({ S with off := true, left := 0, wr := S.wr + 1 + (S.left - 1 - 1), bs := andAt (P ++ [254] ++ List.replicate k' 255 ++ B) (P.length + 1) (T.take (S.left - 1 - 1)) }, _) = _
          rw [a2 _ (by omega)]
        rw [p2, if_neg (show ¬ (6 : Int) = 0 by decide)]
        refine ⟨rfl, 254 :: (T.take (S.left - 1 - 1) ++ List.replicate (k' - (T.take (S.left - 1 - 1)).length) 255), by simp; omega, recQ_st ⟨by simp, by simp⟩, ?_⟩
        simp only [FS.mk.injEq, true_and, and_true]
        refine ⟨?_, by omega⟩
        rw [← hP]
        simp only [List.append_assoc, List.cons_append, List.nil_append]
      · have p2 : progQ T (P.length + 1) { S with left := S.left - 1, wr := S.wr + 1, bs := P ++ [254] ++ List.replicate k' 255 ++ B } = ({ S with left := S.left - 1 - T.length, wr := S.wr + 1 + T.length, bs := P ++ [254] ++ T ++ List.replicate (k' - T.length) 255 ++ B }, 0) := by
          rw [progQ_eq, if_pos (by show S.left - 1 = 0 ∨ T.length < S.left - 1; omega)]
          show ({ S with left := S.left - 1 - T.length, wr := S.wr + 1 + T.length, bs := andAt (P ++ [254] ++ List.replicate k' 255 ++ B) (P.length + 1) T }, _) = _
          rw [a2 T (by omega)]
        rw [p2, if_pos rfl]
        have p3 : progQ [252] P.length { S with left := S.left - 1 - T.length, wr := S.wr + 1 + T.length, bs := P ++ [254] ++ T ++ List.replicate (k' - T.length) 255 ++ B } = ({ S with off := true, left := 0, wr := S.wr + 1 + T.length, bs := P ++ [254] ++ T ++ List.replicate (k' - T.length) 255 ++ B }, 6) := by
          rw [progQ_eq, if_neg (by show ¬ (S.left - 1 - T.length = 0 ∨ 1 < S.left - 1 - T.length); omega), show S.left - 1 - T.length = 1 by omega]
          rfl
        rw [p3]
        refine ⟨rfl, 254 :: (T ++ List.replicate (k' - T.length) 255), by simp; omega, recQ_st ⟨by simp, by simp⟩, ?_⟩
        simp only [FS.mk.injEq, true_and, and_true]
        refine ⟨?_, by omega⟩
        rw [← hP]
        simp only [List.append_assoc, List.cons_append, List.nil_append]
/-- A record is gone. -/
def RL.kill (r : RL) : RL := ⟨r.key, r.val, false⟩
theorem layAll_split (rs : List RL) (i : Nat) (r : RL) (h : rs[i]? = some r) : layAll rs = layAll (rs.take i) ++ r.lay ++ layAll (rs.drop (i + 1)) := by
  obtain ⟨hi, he⟩ := List.getElem?_eq_some_iff.1 h
  conv => { lhs; rw [← List.take_append_drop i rs, List.drop_eq_getElem_cons hi, he] }
  simp [layAll]
theorem layAll_kill (rs : List RL) (i : Nat) (r : RL) (h : rs[i]? = some r) : layAll (rs.set i r.kill) = layAll (rs.take i) ++ r.kill.lay ++ layAll (rs.drop (i + 1)) := by
  obtain ⟨hi, he⟩ := List.getElem?_eq_some_iff.1 h
  rw [layAll_split (rs.set i r.kill) i r.kill (by rw [List.getElem?_set_self (by exact hi)])]
  rw [List.take_set_of_le (Nat.le_refl _), List.drop_set_of_lt (by omega)]
theorem placed_at : ∀ (rs : List RL) (p i : Nat) (r : RL), rs[i]? = some r → (placed p rs)[i]? = some (p + (layAll (rs.take i)).length, r.rd)
  | [], p, i, r, h => by simp at h
  | x :: rs, p, 0, r, h => by
    simp at h
    subst h
    simp [placed, layAll]
  | x :: rs, p, i + 1, r, h => by
    rw [List.getElem?_cons_succ] at h
    have := placed_at rs (p + x.lay.length) i r h
    unfold placed
    rw [List.getElem?_cons_succ, this]
    simp [layAll]
    omega
theorem kill_st (r : RL) : r.st &&& 248 = 248 := by unfold RL.st; cases r.lives <;> decide
/-- A Kill. -/
theorem kill_laid (A h B : List UInt8) (rs : List RL) (k i : Nat) (r : RL) (S : FS) (hS : S.bs = A ++ bankL h rs k ++ B) (hh : h.length = 16) (hr : rs[i]? = some r) :
    (S.left = 1 → progQ [248] (A.length + (16 + (layAll (rs.take i)).length)) S = ({ S with off := true, left := 0 }, 6)) ∧
    (S.left ≠ 1 → progQ [248] (A.length + (16 + (layAll (rs.take i)).length)) S = ({ S with left := S.left - 1, wr := S.wr + 1, bs := A ++ bankL h (rs.set i r.kill) k ++ B }, 0)) := by
  constructor
  · intro h1
    rw [progQ_eq, if_neg (by simp only [List.length_cons, List.length_nil]; omega), h1]
    rfl
  · intro h1
    rw [progQ_eq, if_pos (by simp only [List.length_cons, List.length_nil]; omega)]
    simp only [Prod.mk.injEq, FS.mk.injEq, true_and, and_true]
    refine ⟨?_, rfl, rfl⟩
    rw [hS]
    unfold bankL
    rw [layAll_split rs i r hr, layAll_kill rs i r hr]
    have e1 : A ++ (h ++ (layAll (rs.take i) ++ r.lay ++ layAll (rs.drop (i + 1))) ++ List.replicate k 255) ++ B = (A ++ h ++ layAll (rs.take i)) ++ r.st :: (tailL r.key r.val ++ layAll (rs.drop (i + 1)) ++ List.replicate k 255 ++ B) := by
      unfold RL.lay; simp
    rw [e1, andAt_one' _ _ _ _ _ (by simp [hh]), kill_st]
    unfold RL.lay RL.kill RL.st
    simp
end Go.Proofs.YtkajlbdiofobcaaDoor
