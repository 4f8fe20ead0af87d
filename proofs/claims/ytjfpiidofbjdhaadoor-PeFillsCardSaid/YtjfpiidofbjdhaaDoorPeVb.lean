/-
  pe: a signature's row that is turned (plain data).
-/
import Derived.Test.YtjfpiidofbjdhaaDoorPeV
namespace Go.Proofs.YtjfpiidofbjdhaaDoor
open Go.RowKit Go
set_option linter.unusedVariables false
set_option linter.unusedSimpArgs false
set_option maxRecDepth 100000
/-! ### A signature's row that is turned -/
section
variable {b : List UInt8} {plus : Bool} {p n hdr : Nat} {bods : List (List UInt8)} {ks : List Nat} {sigs : List (List UInt8)} {t l : Nat}
theorem set_same {b : List UInt8} {i : Nat} {v : UInt8} (h : b[i]? = some v) : b.set i v = b := by
  apply List.ext_getElem?
  intro j
  rw [List.getElem?_set]
  split
  · rename_i e
    subst e
    have : i < b.length := by
      rcases Nat.lt_or_ge i b.length with h1 | h1
      · exact h1
      · rw [List.getElem?_eq_none h1] at h; cases h
    rw [if_pos this, h]
  · rfl
theorem set_other {b : List UInt8} {i j : Nat} {v : UInt8} (h : j ≠ i) : (b.set i v)[j]? = b[j]? := by
  rw [List.getElem?_set, if_neg (fun e => h e.symm)]
theorem Made.bad (h : Made b plus p n hdr bods ks sigs t l) (h0 : sigs ≠ []) (b' : List UInt8) (hl : b'.length = b.length) (ha : ∀ i, i < t → b'[i]? = b[i]?) (hn : rowsQ b' t = none) : parseQ b' = .inl 9 := by
  obtain ⟨y1, y2, y3, y4, y5, y6⟩ := h.yes h0
  have hbig := h.big
  have hL := h.m.len
  have hhh := h.m.hh
  have hs := sizeL_two plus
  have M' : MF b' plus p n hdr bods ks := h.m.agree (by omega) (fun i h1 h2 => ha i (by omega)) (fun k i hk h1 h2 => ha i (by omega)) (fun k i hk h0 h1 h2 => ha i (by omega))
  obtain ⟨a1, a2⟩ := h.m.at_
  obtain ⟨b1, b2⟩ := M'.at_
  have e1 : ctQ b' = t := by rw [b1, num_agree (b := b) (by omega) (fun i h1 h2 => ha i (by omega)), ← a1, h.ct]
  have e2 : clQ b' = l := by rw [b2, num_agree (b := b) (by omega) (fun i h1 h2 => ha i (by omega)), ← a2, h.cl]
  have hsg : sgB b'.length t l (hdr + lensQ bods ks) = true := by unfold sgB; simp; omega
  rw [M'.parse (by omega), e1, e2, if_neg (by omega), if_neg (by rw [hsg]; simp), hn]
theorem Made.row1 (h : Made b plus p n hdr bods ks sigs t l) (s : List UInt8) (hs : sigs = [s]) :
    numQ b t 4 = 8 + s.length ∧ cut b (t + 4) 4 = [0, 2, 2, 0] ∧ cut b (t + (8 + s.length)) ((8 - s.length % 8) % 8) = List.replicate ((8 - s.length % 8) % 8) 0 ∧ t + (8 + s.length + (8 - s.length % 8) % 8) = b.length := by
  obtain ⟨y1, y2, y3, y4, y5, y6⟩ := h.yes (by rw [hs]; simp)
  have e : b = b.take t ++ sigRow s ++ [] := by
    have : tableL sigs = sigRow s := by rw [hs]; simp [tableL]
    rw [List.append_nil, ← this, ← y5, List.take_append_drop]
  have hl : (b.take t).length = t := by rw [List.length_take]; omega
  have hg := h.sg s (by rw [hs]; simp)
  have r := row_parts (b.take t) [] s hg
  rw [← e, hl] at r
  refine ⟨r.1, r.2.1, r.2.2.2, ?_⟩
  have : (tableL sigs).length = (sigRow s).length := by rw [hs]; simp [tableL]
  rw [sigRow_len] at this
  omega
/-- The kind of a signature's row. -/
theorem Made.kind (h : Made b plus p n hdr bods ks sigs t l) (s : List UInt8) (hs : sigs = [s]) (j : Nat) (hj : j < 4) (v q : UInt8) (hq : b[t + 4 + j]? = some q) (hv : v ≠ q) : parseQ (b.set (t + 4 + j) v) = .inl 9 := by
  obtain ⟨r1, r2, r3, r4⟩ := h.row1 s hs
  refine h.bad (by rw [hs]; simp) _ (List.length_set) (fun i hi => set_other (by omega)) (rowsQ_no (by rw [List.length_set]; omega) ?_)
  have hc : (cut (b.set (t + 4 + j) v) (t + 4) 4 == [0, 2, 2, 0]) = false := by
    rw [beq_eq_false_iff_ne]
    intro e
    have h1 : (cut (b.set (t + 4 + j) v) (t + 4) 4)[j]? = some v := by
      rw [cut_get _ _ _ _ hj, List.getElem?_set, if_pos rfl, if_pos (by omega)]
    have h2 : (cut b (t + 4) 4)[j]? = some q := by rw [cut_get _ _ _ _ hj]; exact hq
    rw [e, ← r2, h2] at h1
    exact hv (Option.some.inj h1).symm
  unfold rowOk
  rw [hc]
  simp
/-- What fills a signature's row up. -/
theorem Made.fill (h : Made b plus p n hdr bods ks sigs t l) (s : List UInt8) (hs : sigs = [s]) (j : Nat) (hj : j < 8 - (8 + s.length) % 8) (h8 : (8 + s.length) % 8 ≠ 0) :
    b[t + (8 + s.length) + j]? = some 0 ∧ ∀ v : UInt8, v ≠ 0 → parseQ (b.set (t + (8 + s.length) + j) v) = .inl 9 := by
  obtain ⟨r1, r2, r3, r4⟩ := h.row1 s hs
  have h1 : (8 - s.length % 8) % 8 = 8 - (8 + s.length) % 8 := by omega
  have h0 : b[t + (8 + s.length) + j]? = some 0 := by
    have h2 : (cut b (t + (8 + s.length)) ((8 - s.length % 8) % 8))[j]? = some 0 := by rw [r3, List.getElem?_replicate, if_pos (by omega)]
    rw [cut_get _ _ _ _ (by omega)] at h2
    exact h2
  refine ⟨h0, fun v hv => ?_⟩
  have hn : numQ (b.set (t + (8 + s.length) + j) v) t 4 = 8 + s.length := by rw [num_agree (b := b) (by omega) (fun i h1 h2 => set_other (by omega)), r1]
  have hp : padQ (b.set (t + (8 + s.length) + j) v) t = 8 + s.length + (8 - s.length % 8) % 8 := by unfold padQ; rw [hn]; omega
  refine h.bad (by rw [hs]; simp) _ (List.length_set) (fun i hi => set_other (by omega)) (rowsQ_no (by rw [List.length_set]; omega) ?_)
  have hf : fillB (b.set (t + (8 + s.length) + j) v) t = false := by
    unfold fillB
    rw [hp, hn]
    have h2 : (cut (b.set (t + (8 + s.length) + j) v) (t + (8 + s.length)) (8 + s.length + (8 - s.length % 8) % 8 - (8 + s.length)))[j]? = some v := by
      rw [cut_get _ _ _ _ (by omega), List.getElem?_set, if_pos rfl, if_pos (by omega)]
    cases h9 : (cut (b.set (t + (8 + s.length) + j) v) (t + (8 + s.length)) (8 + s.length + (8 - s.length % 8) % 8 - (8 + s.length))).all fun q => q == 0 with
    | false => rfl
    | true =>
      have := List.all_eq_true.1 h9 v (List.mem_of_getElem? h2)
      exact absurd (by simpa using this) hv
  rw [hf, Bool.and_false]
end
end Go.Proofs.YtjfpiidofbjdhaaDoor
