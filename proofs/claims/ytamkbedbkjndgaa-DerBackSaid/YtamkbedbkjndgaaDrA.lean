/-
  der: more plain facts: elements of elements.
-/
import Derived.Test.YtamkbedbkjndgaaDrK
namespace Go.Proofs.Ytamkbedbkjndgaa
open Go.RowKit Go
set_option linter.unusedVariables false
set_option maxRecDepth 100000
theorem splitQ_tag {bs : List UInt8} {s t : Nat} (h : splitQ bs = some (s, t)) : (bs.getD 0 0).toNat % 32 ≠ 31 := by
  unfold splitQ at h
  split at h; cases h
  rename_i h1
  intro e
  exact h1 (.inr e)
theorem beN_take_lt (bs : List UInt8) (k : Nat) (h : k ≤ 4) : beN (bs.take k) < 4294967296 := by
  have h1 := beN_lt _ (bs.take k) rfl
  have h2 : (256 : Nat) ^ (bs.take k).length ≤ 256 ^ 4 := Nat.pow_le_pow_right (by decide) (by rw [List.length_take]; omega)
  have h3 : (256 : Nat) ^ 4 = 4294967296 := by decide
  omega
theorem splitQ_small {bs : List UInt8} {s t : Nat} (h : splitQ bs = some (s, t)) : t - s < 4294967296 := by
  unfold splitQ at h
  split at h; cases h
  split at h
  · split at h
    · simp at h; omega
    · cases h
  split at h; cases h
  rename_i h4
  split at h; cases h
  simp only [Option.some.injEq, Prod.mk.injEq] at h
  have := beN_take_lt (bs.drop 2) (nth bs 1 - 128) (by omega)
  omega
theorem split_take {bs : List UInt8} {s t : Nat} (h : splitQ bs = some (s, t)) : splitQ (bs.take t) = some (s, t) := by
  obtain ⟨h2, hst, htl⟩ := splitQ_le h
  have hw := wr_split h
  have hsm := splitQ_small h
  have hbl : ((bs.take t).drop s).length = t - s := by rw [List.length_drop, List.length_take]; omega
  have := split_wr (bs.getD 0 0) ((bs.take t).drop s) [] (splitQ_tag h) (by omega)
  rw [List.append_nil, ← hw, hbl, List.length_take] at this
  rw [this]
  simp only [Option.some.injEq, Prod.mk.injEq]
  omega
theorem allQ_one {bs : List UInt8} {s : Nat} (h : splitQ bs = some (s, bs.length)) : allQ bs = some [(bs, bs.drop s)] := by
  rw [allQ_some h, List.drop_of_length_le (Nat.le_refl _), allQ_nil, List.take_of_length_le (Nat.le_refl _)]
  rfl
theorem allQ_mem : ∀ (k : Nat) (bs : List UInt8) (l : List (List UInt8 × List UInt8)), bs.length ≤ k → allQ bs = some l → ∀ p ∈ l, allQ p.1 = some [p]
  | 0, bs, l, hk, h => by
    obtain rfl : bs = [] := List.length_eq_zero_iff.1 (by omega)
    rw [allQ_nil] at h
    cases h
    intro p hp; cases hp
  | k + 1, bs, l, hk, h => by
    by_cases hn : bs = []
    · subst hn
      rw [allQ_nil] at h
      cases h
      intro p hp; cases hp
    cases hq : splitQ bs with
    | none => rw [allQ_none hn hq] at h; cases h
    | some p =>
      obtain ⟨s, t⟩ := p
      rw [allQ_some hq] at h
      obtain ⟨l', h1, rfl⟩ := Option.map_eq_some_iff.1 h
      have hle := splitQ_le hq
      intro q hm
      rcases List.mem_cons.1 hm with rfl | hm
      · have hl : (bs.take t).length = t := by rw [List.length_take]; omega
        exact allQ_one (by rw [hl]; exact split_take hq)
      · exact allQ_mem k (bs.drop t) l' (by rw [List.length_drop]; omega) h1 q hm
theorem allQ_wr (tag : UInt8) (ht : tag.toNat % 32 ≠ 31) (a rest : List UInt8) (ha : a.length < 4294967296) : allQ (wrQ tag a ++ rest) = (allQ rest).map ((wrQ tag a, a) :: ·) := by
  rw [allQ_some (split_wr tag a rest ht ha)]
  have e1 : (wrQ tag a ++ rest).take (wrQ tag a).length = wrQ tag a := by simp
  have e2 : (wrQ tag a ++ rest).drop (wrQ tag a).length = rest := by simp
  have e3 : (wrQ tag a).drop ((wrQ tag a).length - a.length) = a := by
    have : ∃ p, wrQ tag a = p ++ a := by unfold wrQ; split; exact ⟨[tag, _], rfl⟩; exact ⟨tag :: UInt8.ofNat (128 + (lenB a.length).length) :: lenB a.length, by simp⟩
    obtain ⟨p, hp⟩ := this
    rw [hp]; simp
  rw [e1, e2, e3]
theorem firstN_vals (l : List Nat) (h : ∀ x ∈ l, x = 0 ∨ x = 9 ∨ x = 10) : firstN l = 0 ∨ firstN l = 9 ∨ firstN l = 10 := by
  induction l with
  | nil => exact .inl rfl
  | cons x r ih =>
    simp only [firstN]
    split
    · exact ih (fun y hy => h y (by simp [hy]))
    · exact h x (by simp)
theorem firstN_eq_zero {l : List Nat} (h : firstN l = 0) : ∀ x ∈ l, x = 0 := by
  induction l with
  | nil => intro x hx; cases hx
  | cons y r ih =>
    simp only [firstN] at h
    split at h
    · rename_i hy
      intro x hx
      rcases List.mem_cons.1 hx with rfl | hx
      · exact hy
      · exact ih h x hx
    · rename_i hy; exact absurd h hy
theorem chk_vals : ∀ (k : Nat) (raw body : List UInt8), chk k raw body = 0 ∨ chk k raw body = 9 ∨ chk k raw body = 10
  | 0, raw, body => by simp only [chk]; split <;> simp
  | k + 1, raw, body => by
    simp only [chk]
    split
    · simp
    · split
      · simp
      · refine firstN_vals _ (fun x hx => ?_)
        obtain ⟨p, _, rfl⟩ := List.mem_map.1 hx
        exact chk_vals k _ _
theorem chk_mono : ∀ (k : Nat) (raw body : List UInt8), chk k raw body = 0 → chk (k + 1) raw body = 0
  | 0, raw, body, h => by
    by_cases hl : nth raw 0 / 32 % 2 = 0 ∨ body = []
    · exact chk_leaf 1 hl
    · rw [chk_bottom hl] at h; cases h
  | k + 1, raw, body, h => by
    by_cases hl : nth raw 0 / 32 % 2 = 0 ∨ body = []
    · exact chk_leaf _ hl
    · cases hq : allQ body with
      | none => rw [chk_none hl hq] at h; cases h
      | some l =>
        rw [chk_some hl hq] at h
        rw [chk_some hl hq]
        refine firstN_zero (fun x hx => ?_)
        obtain ⟨p, hp, rfl⟩ := List.mem_map.1 hx
        exact chk_mono k _ _ (firstN_eq_zero h _ (List.mem_map_of_mem hp))
theorem check_wr (tag : UInt8) (ht : tag.toNat % 32 ≠ 31) (b : List UInt8) (hb : b.length < 4294967296) : checkQ (wrQ tag b) = chk 15 (wrQ tag b) b := by
  have := allQ_wr tag ht b [] hb
  rw [List.append_nil, allQ_nil] at this
  unfold checkQ
  rw [this]
  rfl
theorem nth_wr (tag : UInt8) (b : List UInt8) : nth (wrQ tag b) 0 = tag.toNat := by unfold nth wrQ; split <;> rfl
end Go.Proofs.Ytamkbedbkjndgaa
