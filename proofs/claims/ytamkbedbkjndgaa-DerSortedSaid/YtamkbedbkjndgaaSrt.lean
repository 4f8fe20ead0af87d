/-
  Plain: stretches of lists that are in order; swaps, rotations, merges in place.
-/
import Derived.Test.YtamkbedbkjndgaaOwn
namespace Go.Proofs.Ytamkbedbkjndgaa
set_option linter.unusedVariables false
section
variable {α : Type}
/-- The stretch from a to b is in order. -/
def Srt (le : α → α → Prop) (ds : List α) (a b : Nat) : Prop := ∀ i j x y, a ≤ i → i < j → j < b → ds[i]? = some x → ds[j]? = some y → le x y
/-- The same things, turned about within the stretch from a to b. -/
structure Like (a b : Nat) (ds ds' : List α) : Prop where
  perm : ds'.Perm ds
  out : ∀ i, i < a ∨ b ≤ i → ds'[i]? = ds[i]?
  within : ∀ i x, a ≤ i → i < b → ds'[i]? = some x → ∃ j, a ≤ j ∧ j < b ∧ ds[j]? = some x
theorem Like.len {a b : Nat} {ds ds' : List α} (h : Like a b ds ds') : ds'.length = ds.length := h.perm.length_eq
theorem Like.refl (a b : Nat) (ds : List α) : Like a b ds ds := ⟨.refl _, fun _ _ => rfl, fun i x h1 h2 h => ⟨i, h1, h2, h⟩⟩
theorem Like.trans {a b : Nat} {x y z : List α} (h : Like a b x y) (k : Like a b y z) : Like a b x z :=
  ⟨k.perm.trans h.perm, fun i hi => (k.out i hi).trans (h.out i hi), fun i u h1 h2 h3 => by
    obtain ⟨j, j1, j2, j3⟩ := k.within i u h1 h2 h3
    exact h.within j u j1 j2 j3⟩
theorem Like.mono {a b a' b' : Nat} {x y : List α} (h : Like a b x y) (ha : a' ≤ a) (hb : b ≤ b') : Like a' b' x y :=
  ⟨h.perm, fun i hi => h.out i (by omega), fun i u h1 h2 h3 => by
    by_cases hi : a ≤ i ∧ i < b
    · obtain ⟨j, j1, j2, j3⟩ := h.within i u hi.1 hi.2 h3
      exact ⟨j, by omega, by omega, j3⟩
    · rw [h.out i (by omega)] at h3
      exact ⟨i, h1, h2, h3⟩⟩
theorem Like.none {a b : Nat} {x y : List α} (h : Like a b x y) (hab : b ≤ a) : y = x := List.ext_getElem? fun i => h.out i (by omega)
/-- Two things swapped. -/
theorem swap_perm (ds : List α) (i j : Nat) (x y : α) (hi : ds[i]? = some x) (hj : ds[j]? = some y) : ((ds.set i y).set j x).Perm ds := by
  obtain ⟨h1, rfl⟩ := List.getElem?_eq_some_iff.1 hi
  obtain ⟨h2, rfl⟩ := List.getElem?_eq_some_iff.1 hj
  have := Array.swap_perm (xs := ds.toArray) (i := i) (j := j) (by simpa using h1) (by simpa using h2)
  have h := this.toList
  simpa [Array.swap] using h
theorem swap_like (ds : List α) (a b i j : Nat) (x y : α) (hi : ds[i]? = some x) (hj : ds[j]? = some y) (i1 : a ≤ i) (i2 : i < b) (j1 : a ≤ j) (j2 : j < b) : Like a b ds ((ds.set i y).set j x) := by
  obtain ⟨h1, rfl⟩ := List.getElem?_eq_some_iff.1 hi
  obtain ⟨h2, rfl⟩ := List.getElem?_eq_some_iff.1 hj
  refine ⟨swap_perm ds i j _ _ hi hj, fun k hk => ?_, fun k u k1 k2 hk => ?_⟩
  · rw [List.getElem?_set_ne (by omega), List.getElem?_set_ne (by omega)]
  · by_cases e1 : j = k
    · subst e1
      rw [List.getElem?_set_self (by simpa using h2)] at hk
      cases hk
      exact ⟨i, i1, i2, hi⟩
    · rw [List.getElem?_set_ne e1] at hk
      by_cases e2 : i = k
      · subst e2
        rw [List.getElem?_set_self h1] at hk
        cases hk
        exact ⟨j, j1, j2, hj⟩
      · rw [List.getElem?_set_ne e2] at hk
        exact ⟨k, k1, k2, hk⟩
theorem Srt.sub {le : α → α → Prop} {ds : List α} {a b a' b' : Nat} (h : Srt le ds a b) (ha : a ≤ a') (hb : b' ≤ b) : Srt le ds a' b' :=
  fun i j x y h1 h2 h3 => h i j x y (by omega) h2 (by omega)
theorem Srt.one {le : α → α → Prop} {ds : List α} {a b : Nat} (h : b ≤ a + 1) : Srt le ds a b := fun i j x y h1 h2 h3 => absurd h2 (by omega)
theorem Srt.same {le : α → α → Prop} {ds ds' : List α} {a b : Nat} (h : Srt le ds a b) (he : ∀ i, a ≤ i → i < b → ds'[i]? = ds[i]?) : Srt le ds' a b :=
  fun i j x y h1 h2 h3 hx hy => h i j x y h1 h2 h3 (by rw [← he i h1 (by omega)]; exact hx) (by rw [← he j (by omega) h3]; exact hy)
/-- Two stretches in order, one wholly ahead of the other. -/
theorem Srt.join {le : α → α → Prop} {ds : List α} {a m b : Nat} (h1 : Srt le ds a m) (h2 : Srt le ds m b) (h : ∀ i j x y, a ≤ i → i < m → m ≤ j → j < b → ds[i]? = some x → ds[j]? = some y → le x y) : Srt le ds a b := by
  intro i j x y hi hij hj hx hy
  by_cases hm : j < m
  · exact h1 i j x y hi hij hm hx hy
  · by_cases hm2 : m ≤ i
    · exact h2 i j x y hm2 hij hj hx hy
    · exact h i j x y hi (by omega) (by omega) hj hx hy
/-- One wholly ahead of the other stays so. -/
theorem ahead_like {le : α → α → Prop} {ds ds' : List α} {a m b : Nat} (h : ∀ i j x y, a ≤ i → i < m → m ≤ j → j < b → ds[i]? = some x → ds[j]? = some y → le x y) (l : Like a m ds ds') : ∀ i j x y, a ≤ i → i < m → m ≤ j → j < b → ds'[i]? = some x → ds'[j]? = some y → le x y := by
  intro i j x y i1 i2 j1 j2 hx hy
  obtain ⟨k, k1, k2, hk⟩ := l.within i x i1 i2 hx
  rw [l.out j (by omega)] at hy
  exact h k j x y k1 k2 j1 j2 hk hy
theorem ahead_like2 {le : α → α → Prop} {ds ds' : List α} {a m b : Nat} (h : ∀ i j x y, a ≤ i → i < m → m ≤ j → j < b → ds[i]? = some x → ds[j]? = some y → le x y) (l : Like m b ds ds') : ∀ i j x y, a ≤ i → i < m → m ≤ j → j < b → ds'[i]? = some x → ds'[j]? = some y → le x y := by
  intro i j x y i1 i2 j1 j2 hx hy
  obtain ⟨k, k1, k2, hk⟩ := l.within j y j1 j2 hy
  rw [l.out i (by omega)] at hx
  exact h i k x y i1 i2 k1 k2 hx hk
/-- What a rotation does: the stretch from m to b comes ahead of that from a to m. -/
structure Rot (a m b : Nat) (ds ds' : List α) : Prop where
  perm : ds'.Perm ds
  out : ∀ i, i < a ∨ b ≤ i → ds'[i]? = ds[i]?
  lo : ∀ i, a ≤ i → i < a + (b - m) → ds'[i]? = ds[i + (m - a)]?
  hi : ∀ i, a + (b - m) ≤ i → i < b → ds'[i]? = ds[i - (b - m)]?
theorem Rot.like {a m b : Nat} {ds ds' : List α} (h : Rot a m b ds ds') (h1 : a ≤ m) (h2 : m ≤ b) : Like a b ds ds' :=
  ⟨h.perm, h.out, fun i x i1 i2 hx => by
    by_cases hi : i < a + (b - m)
    · rw [h.lo i i1 hi] at hx
      exact ⟨i + (m - a), by omega, by omega, hx⟩
    · rw [h.hi i (by omega) i2] at hx
      exact ⟨i - (b - m), by omega, by omega, hx⟩⟩
/-- The two searched places part the stretch: all left of mid is ahead of all right of it. -/
theorem sym_parts {le : α → α → Prop} (tr : ∀ x y z, le x y → le y z → le x z) (rf : ∀ x, le x x) {ds ds' : List α} {a m b mid s e : Nat} (hb : b ≤ ds.length) (h1 : Srt le ds a m) (h2 : Srt le ds m b) (hs : a ≤ s) (hsm : s ≤ m) (hme : m ≤ e) (heb : e ≤ b) (hmid : s + (e - m) = mid)
    (hlo : a < s → e < b → ∀ x y, ds[s - 1]? = some x → ds[e]? = some y → le x y) (hhi : s < m → m < e → ∀ x y, ds[e - 1]? = some x → ds[s]? = some y → le x y) (r : Rot s m e ds ds') :
    Srt le ds' a s ∧ Srt le ds' s mid ∧ Srt le ds' mid e ∧ Srt le ds' e b ∧ (∀ i j x y, a ≤ i → i < mid → mid ≤ j → j < b → ds'[i]? = some x → ds'[j]? = some y → le x y) := by
  have le' : ∀ {i j x y}, a ≤ i → i ≤ j → j < m → ds[i]? = some x → ds[j]? = some y → le x y := fun {i j x y} h3 h4 h5 hx hy => by
    rcases Nat.eq_or_lt_of_le h4 with rfl | h6
    · rw [hx] at hy; cases hy; exact rf _
    · exact h1 i j x y h3 h6 h5 hx hy
  have re' : ∀ {i j x y}, m ≤ i → i ≤ j → j < b → ds[i]? = some x → ds[j]? = some y → le x y := fun {i j x y} h3 h4 h5 hx hy => by
    rcases Nat.eq_or_lt_of_le h4 with rfl | h6
    · rw [hx] at hy; cases hy; exact rf _
    · exact h2 i j x y h3 h6 h5 hx hy
  refine ⟨?_, ?_, ?_, ?_, ?_⟩
  · exact (h1.sub (Nat.le_refl _) hsm).same fun i _ hi => r.out i (.inl hi)
  · intro i j x y hi hij hj hx hy
    rw [r.lo i (by omega) (by omega)] at hx
    rw [r.lo j (by omega) (by omega)] at hy
    exact h2 _ _ x y (by omega) (by omega) (by omega) hx hy
  · intro i j x y hi hij hj hx hy
    rw [r.hi i (by omega) (by omega)] at hx
    rw [r.hi j (by omega) (by omega)] at hy
    exact h1 _ _ x y (by omega) (by omega) (by omega) hx hy
  · exact (h2.sub hme (Nat.le_refl _)).same fun i hi _ => r.out i (.inr hi)
  · intro i j x y i1 i2 j1 j2 hx hy
    have gl : ∀ k, k < b → ∃ z, ds[k]? = some z := fun k hk => ⟨_, List.getElem?_eq_getElem (by omega)⟩
    by_cases hi : i < s
    · rw [r.out i (.inl hi)] at hx
      by_cases hj : j < e
      · rw [r.hi j (by omega) hj] at hy
        exact le' (by omega) (by omega) (by omega) hx hy
      · rw [r.out j (.inr (by omega))] at hy
        obtain ⟨u, hu⟩ := gl (s - 1) (by omega)
        obtain ⟨v, hv⟩ := gl e (by omega)
        have := hlo (by omega) (by omega) u v hu hv
        exact tr _ _ _ (le' i1 (by omega) (by omega) hx hu) (tr _ _ _ this (re' (by omega) (by omega) j2 hv hy))
    · rw [r.lo i (by omega) (by omega)] at hx
      by_cases hj : j < e
      · rw [r.hi j (by omega) hj] at hy
        obtain ⟨u, hu⟩ := gl (e - 1) (by omega)
        obtain ⟨v, hv⟩ := gl s (by omega)
        have := hhi (by omega) (by omega) u v hu hv
        exact tr _ _ _ (re' (by omega) (by omega) (by omega) hx hu) (tr _ _ _ this (le' (by omega) (by omega) (by omega) hv hy))
      · rw [r.out j (.inr (by omega))] at hy
        exact re' (by omega) (by omega) j2 hx hy
end
end Go.Proofs.Ytamkbedbkjndgaa
