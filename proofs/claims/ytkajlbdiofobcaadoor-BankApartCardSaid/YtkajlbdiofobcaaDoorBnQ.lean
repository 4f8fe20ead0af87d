/-
  bank: a bank works at all.
-/
import Derived.Test.YtkajlbdiofobcaaDoorBnP
namespace Go.Proofs.YtkajlbdiofobcaaDoor
open Go.RowKit Go
set_option linter.unusedVariables false
set_option linter.unusedSimpArgs false
set_option maxRecDepth 100000
theorem scan_one {X : List UInt8} {l l' : List (Nat × RD)} {q q' : Nat} (a : Scan X l q) (b : Scan X l' q') : l = l' ∧ q = q' := Got.one a.got a.stop b.got b.stop
theorem bankL_len (h : List UInt8) (rs : List RL) (k : Nat) : (bankL h rs k).length = h.length + (layAll rs).length + k := by simp [bankL]; omega
theorem bank_of {S : FS} {F C : Nat} {A X B : List UInt8} (hS : S.bs = A ++ X ++ B) (hA : A.length = F * S.s) (hX : X.length = C * S.s) : S.bank F C = X := by
  unfold FS.bank
  rw [hS, ← hA, ← hX, List.append_assoc, List.drop_left, List.take_left]
theorem whole_laid (h : List UInt8) (rs : List RL) (k : Nat) (hh : h.length = 16) : wholeB (bankL h rs k) (16 + (layAll rs).length) = true := by
  unfold wholeB
  rw [bankL_len, hh]
  rcases Nat.eq_zero_or_pos k with hk | hk
  · rw [decide_eq_true (by omega)]; rfl
  · have : (bankL h rs k).getD (16 + (layAll rs).length) 0 = 255 := by
      unfold bankL
      rw [List.getD_eq_getElem?_getD, List.getElem?_append_right (by simp; omega)]
      simp [hh, List.getElem?_replicate]
      rw [if_pos hk]; rfl
    rw [this]
    simp
theorem scan_bankL (h : List UInt8) (rs : List RL) (k : Nat) (hh : h.length = 16) (hr : ∀ r ∈ rs, r.ok) : Scan (bankL h rs k) (placed 16 rs) (16 + (layAll rs).length) := scan_laid rs h _ hh hr (recQ_free k)
/-- What Add makes of a bank that was laid, and has room, while the power stays. -/
theorem add_calm (F C : Nat) (S : FS) (A h B : List UInt8) (rs : List RL) (k : Nat) (key val : List UInt8) (T : FS) (r : Int) (h2 : S.left = 0) (h3 : S.bs = A ++ bankL h rs k ++ B) (h4 : A.length = F * S.s) (h5 : (bankL h rs k).length = C * S.s) (hh : h.length = 16) (hr : ∀ r ∈ rs, r.ok)
    (hn : 1 ≤ key.length ∧ key.length ≤ 255 ∧ val.length ≤ 65536) (hk : 12 + key.length + val.length ≤ k) (ha : AddIs S F C key val T r) :
    r = 0 ∧ T = { S with wr := S.wr + (13 + key.length + val.length), bs := A ++ bankL h (rs ++ [⟨key, val, true⟩]) (k - (12 + key.length + val.length)) ++ B } := by
  have hb := bank_of h3 h4 h5
  unfold AddIs at ha
  rw [if_pos hn, hb] at ha
  obtain ⟨l, q, hs, hif⟩ := ha
  obtain ⟨_, rfl⟩ := scan_one hs (scan_bankL h rs k hh hr)
  rw [whole_laid h rs k hh, if_neg (by decide), if_neg (by rw [← h5, bankL_len, hh]; omega)] at hif
  obtain ⟨rfl, rfl⟩ := hif
  rw [← h4]
  rcases addQ_laid A h B rs k key val S h3 hh hk with ⟨_, e1, e2⟩ | ⟨e0, _⟩
  · refine ⟨e1, ?_⟩
    rw [e2]
    obtain ⟨n, s, bs, off, left, part, wr⟩ := S
    simp only at h2
    subst h2
    simp
  · omega
/-- What Scan tells of a bank that was laid. -/
theorem scan_calm {w w' : World} {h : List UInt8} {rs : List RL} {k : Nat} {e : Ending} (hh : h.length = 16) (hr : ∀ r ∈ rs, r.ok) (hp : ScanPost w (bankL h rs k) e w') :
    ∃ (A : Option Addr) (c : Nat) (ys : List SV), e = .returned (.tuple #[.slice A rs.length c, .int .i64 ((16 + (layAll rs).length : Nat) : Int), .bool true, .int .i64 0]) ∧ ys.map SV.r = rs.map RL.rd ∧ OwnR w' w.heap.size 72 3 A rs.length c (ys.flatMap SV.cells) ∧ SVs w' w.heap.size ys ∧ Below w.heap.size w w' := by
  obtain ⟨A, n, c, ys, l, q, he, hs, hm, ho, hv, hb⟩ := hp
  obtain ⟨rfl, rfl⟩ := scan_one hs (scan_bankL h rs k hh hr)
  have hpm : ∀ (rs : List RL) (p : Nat), (placed p rs).map Prod.snd = rs.map RL.rd := by
    intro rs
    induction rs with
    | nil => intro p; rfl
    | cons r rs ih => intro p; simp [placed, ih]
  rw [hpm] at hm
  have hn : n = rs.length := by
    have h1 := ho.len
    rw [cells_len3] at h1
    have h2 : ys.length = rs.length := by have := congrArg List.length hm; simpa using this
    omega
  subst hn
  rw [whole_laid h rs k hh] at he
  exact ⟨A, c, ys, he, hm, ho, hv, hb⟩
end Go.Proofs.YtkajlbdiofobcaaDoor
