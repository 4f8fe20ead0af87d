/-
  Plain: rotation by swaps, insertion.
-/
import Derived.Test.YtamkbedbkjndgaaSrA
namespace Go.Proofs.Ytamkbedbkjndgaa
open Go.RowKit Go
set_option linter.unusedVariables false
set_option linter.unusedSimpArgs false
set_option maxRecDepth 100000
theorem Rot.same_l (m e : Nat) (ds : List Own1) : Rot m m e ds ds := ⟨.refl _, fun _ _ => rfl, fun i _ _ => by rw [Nat.sub_self, Nat.add_zero], fun i h1 h2 => absurd h2 (by omega)⟩
theorem Rot.same_r (s m : Nat) (ds : List Own1) : Rot s m m ds ds := ⟨.refl _, fun _ _ => rfl, fun i h1 h2 => absurd h2 (by omega), fun i _ _ => by rw [Nat.sub_self, Nat.sub_zero]⟩
theorem rot_more_l {m i j p : Nat} {dk dl X : List Own1} (hp : p + i = m) (hji : j < i) (s : SwR p m j dk dl) (r : Rot (p + j) m (m + j) dl X) : Rot p m (m + j) dk X := by
  refine ⟨r.perm.trans s.perm, fun t ht => ?_, fun t h1 h2 => ?_, fun t h1 h2 => ?_⟩
  · rw [r.out t (by omega), s.out t (by omega) (by omega)]
  · obtain ⟨u, rfl⟩ : ∃ u, t = p + u := ⟨t - p, by omega⟩
    rw [r.out _ (by omega), s.fst u (by omega)]
    congr 1
    omega
  · by_cases h3 : t < p + j + (m + j - m)
    · rw [r.lo t (by omega) h3]
      obtain ⟨u, hu⟩ : ∃ u, t + (m - (p + j)) = m + u := ⟨t - p - j, by omega⟩
      rw [hu, s.snd u (by omega)]
      congr 1
      omega
    · rw [r.hi t (by omega) h2, s.out _ (by omega) (by omega)]
theorem rot_more_r {m i j p q : Nat} {dk dl X : List Own1} (hp : p + i = m) (hq : q + i = m + j) (hij : i < j) (s : SwR p q i dk dl) (r : Rot p m (m + (j - i)) dl X) : Rot p m (m + j) dk X := by
  refine ⟨r.perm.trans s.perm, fun t ht => ?_, fun t h1 h2 => ?_, fun t h1 h2 => ?_⟩
  · rw [r.out t (by omega), s.out t (by omega) (by omega)]
  · by_cases h3 : t < p + (m + (j - i) - m)
    · rw [r.lo t h1 h3]
      by_cases h4 : t + (m - p) < q
      · rw [s.out _ (by omega) (by omega)]
      · omega
    · rw [r.hi t (by omega) (by omega)]
      obtain ⟨u, hu⟩ : ∃ u, t - (m + (j - i) - m) = p + u := ⟨t - (m + (j - i) - m) - p, by omega⟩
      rw [hu, s.fst u (by omega)]
      congr 1
      omega
  · rw [r.out t (by omega)]
    obtain ⟨u, rfl⟩ : ∃ u, t = q + u := ⟨t - q, by omega⟩
    rw [s.snd u (by omega)]
    congr 1
    omega
theorem rot_last {m i p : Nat} {dk dl : List Own1} (hp : p + i = m) (s : SwR p m i dk dl) : Rot p m (m + i) dk dl := by
  refine ⟨s.perm, fun t ht => s.out t (by omega) (by omega), fun t h1 h2 => ?_, fun t h1 h2 => ?_⟩
  · obtain ⟨u, rfl⟩ : ∃ u, t = p + u := ⟨t - p, by omega⟩
    rw [s.fst u (by omega)]
    congr 1
    omega
  · obtain ⟨u, rfl⟩ : ∃ u, t = m + u := ⟨t - m, by omega⟩
    rw [s.snd u (by omega)]
    congr 1
    omega
/-- All pairs up to i are in order but those whose second is at j. -/
def InJ (ds : List Own1) (a i j : Nat) : Prop := ∀ p q x y, a ≤ p → p < q → q ≤ i → q ≠ j → ds[p]? = some x → ds[q]? = some y → leR x y
theorem inj_start {ds : List Own1} {a i : Nat} (h : Srt leR ds a i) : InJ ds a i i := fun p q x y h1 h2 h3 h4 hx hy => h p q x y h1 h2 (by omega) hx hy
theorem inj_step {ds : List Own1} {a i j : Nat} {x y : Own1} (h : InJ ds a i (j + 1)) (hj : a ≤ j) (hji : j + 1 ≤ i) (hx : ds[j]? = some x) (hy : ds[j + 1]? = some y) (hlt : leR y x) : InJ ((ds.set (j + 1) x).set j y) a i j := by
  have l1 : j < ds.length := (List.getElem?_eq_some_iff.1 hx).1
  have l2 : j + 1 < ds.length := (List.getElem?_eq_some_iff.1 hy).1
  have e1 : ((ds.set (j + 1) x).set j y)[j]? = some y := by rw [List.getElem?_set_self (by simpa using l1)]
  have e2 : ((ds.set (j + 1) x).set j y)[j + 1]? = some x := by rw [List.getElem?_set_ne (by omega), List.getElem?_set_self l2]
  have e3 : ∀ t, t ≠ j → t ≠ j + 1 → ((ds.set (j + 1) x).set j y)[t]? = ds[t]? := fun t h1 h2 => by rw [List.getElem?_set_ne (by omega), List.getElem?_set_ne (by omega)]
  intro p q u v h1 h2 h3 h4 hu hv
  by_cases q1 : q = j + 1
  · subst q1
    rw [e2] at hv
    cases hv
    by_cases p1 : p = j
    · subst p1; rw [e1] at hu; cases hu; exact hlt
    · rw [e3 p p1 (by omega)] at hu
      exact h p j u _ h1 (by omega) (by omega) (by omega) hu hx
  · rw [e3 q h4 q1] at hv
    by_cases p1 : p = j
    · subst p1; rw [e1] at hu; cases hu
      exact h _ q _ v (by omega) (by omega) h3 q1 hy hv
    · by_cases p2 : p = j + 1
      · subst p2; rw [e2] at hu; cases hu
        exact h j q _ v hj (by omega) h3 q1 hx hv
      · rw [e3 p p1 p2] at hu
        exact h p q u v h1 h2 h3 q1 hu hv
theorem inj_stop {ds : List Own1} {a i j : Nat} (h : InJ ds a i (j + 1)) (hj : a ≤ j) {x y : Own1} (hx : ds[j]? = some x) (hy : ds[j + 1]? = some y) (hle : leR x y) : Srt leR ds a (i + 1) := by
  intro p q u v h1 h2 h3 hu hv
  by_cases q1 : q = j + 1
  · subst q1
    rw [hy] at hv
    cases hv
    by_cases p1 : p = j
    · subst p1; rw [hx] at hu; cases hu; exact hle
    · by_cases hji : j ≤ i
      · exact leR_tr _ _ _ (h p j u x h1 (by omega) hji (by omega) hu hx) hle
      · omega
  · exact h p q u v h1 h2 (by omega) q1 hu hv
theorem inj_first {ds : List Own1} {a i : Nat} (h : InJ ds a i a) : Srt leR ds a (i + 1) := fun p q u v h1 h2 h3 hu hv => h p q u v h1 h2 (by omega) (by omega) hu hv
/-- The first one put in its place behind those that are less. -/
theorem ins_front {ds ds' : List Own1} {a b i : Nat} (hai : a + 1 ≤ i) (hib : i ≤ b) (hb : b ≤ ds.length) (hs : Srt leR ds (a + 1) b) (hl : a + 1 < i → ∀ x y, ds[i - 1]? = some x → ds[a]? = some y → leR x y) (hr : i < b → ∀ x y, ds[a]? = some x → ds[i]? = some y → leR x y) (r : Rot a (a + 1) i ds ds') : Srt leR ds' a b := by
  have gl : ∀ k, k < b → ∃ z, ds[k]? = some z := fun k hk => ⟨_, List.getElem?_eq_getElem (by omega)⟩
  have sl : ∀ p q x y, a + 1 ≤ p → p ≤ q → q < b → ds[p]? = some x → ds[q]? = some y → leR x y := fun p q x y h1 h2 h3 hx hy => by
    rcases Nat.eq_or_lt_of_le h2 with rfl | h4
    · rw [hx] at hy; cases hy; exact leR_rf _
    · exact hs p q x y h1 h4 h3 hx hy
  have v1 : ∀ p, a ≤ p → p < i - 1 → ds'[p]? = ds[p + 1]? := fun p h1 h2 => by rw [r.lo p h1 (by omega)]; congr 1; omega
  have v2 : ds'[i - 1]? = ds[a]? := by rw [r.hi (i - 1) (by omega) (by omega)]; congr 1; omega
  have v3 : ∀ p, i ≤ p → ds'[p]? = ds[p]? := fun p h => r.out p (.inr h)
  intro p q x y h1 h2 h3 hx hy
  by_cases hp : p < i - 1
  · rw [v1 p h1 hp] at hx
    by_cases hq : q < i - 1
    · rw [v1 q (by omega) hq] at hy
      exact hs _ _ x y (by omega) (by omega) (by omega) hx hy
    · by_cases hq2 : q = i - 1
      · subst hq2
        rw [v2] at hy
        obtain ⟨u, hu⟩ := gl (i - 1) (by omega)
        exact leR_tr _ _ _ (sl (p + 1) (i - 1) x u (by omega) (by omega) (by omega) hx hu) (hl (by omega) u y hu hy)
      · rw [v3 q (by omega)] at hy
        exact hs _ _ x y (by omega) (by omega) h3 hx hy
  · by_cases hp2 : p = i - 1
    · subst hp2
      rw [v2] at hx
      rw [v3 q (by omega)] at hy
      obtain ⟨u, hu⟩ := gl i (by omega)
      exact leR_tr _ _ _ (hr (by omega) x u hx hu) (sl i q u y (by omega) (by omega) h3 hu hy)
    · rw [v3 p (by omega)] at hx
      rw [v3 q (by omega)] at hy
      exact hs p q x y (by omega) h2 h3 hx hy
/-- The last one put in its place ahead of those that are greater. -/
theorem ins_back {ds ds' : List Own1} {a m i : Nat} (hai : a ≤ i) (him : i ≤ m) (hb : m < ds.length) (hs : Srt leR ds a m) (hl : a < i → ∀ x y, ds[i - 1]? = some x → ds[m]? = some y → leR x y) (hr : i < m → ∀ x y, ds[m]? = some x → ds[i]? = some y → leR x y) (r : Rot i m (m + 1) ds ds') : Srt leR ds' a (m + 1) := by
  have gl : ∀ k, k ≤ m → ∃ z, ds[k]? = some z := fun k hk => ⟨_, List.getElem?_eq_getElem (by omega)⟩
  have sl : ∀ p q x y, a ≤ p → p ≤ q → q < m → ds[p]? = some x → ds[q]? = some y → leR x y := fun p q x y h1 h2 h3 hx hy => by
    rcases Nat.eq_or_lt_of_le h2 with rfl | h4
    · rw [hx] at hy; cases hy; exact leR_rf _
    · exact hs p q x y h1 h4 h3 hx hy
  have v1 : ∀ p, p < i → ds'[p]? = ds[p]? := fun p h => r.out p (.inl h)
  have v2 : ds'[i]? = ds[m]? := by rw [r.lo i (by omega) (by omega)]; congr 1; omega
  have v3 : ∀ p, i + 1 ≤ p → p < m + 1 → ds'[p]? = ds[p - 1]? := fun p h1 h2 => by rw [r.hi p (by omega) h2]; congr 1; omega
  intro p q x y h1 h2 h3 hx hy
  by_cases hp : p < i
  · rw [v1 p hp] at hx
    by_cases hq : q < i
    · rw [v1 q hq] at hy
      exact hs p q x y h1 h2 (by omega) hx hy
    · by_cases hq2 : q = i
      · subst hq2
        rw [v2] at hy
        obtain ⟨u, hu⟩ := gl (q - 1) (by omega)
        exact leR_tr _ _ _ (sl p (q - 1) x u h1 (by omega) (by omega) hx hu) (hl (by omega) u y hu hy)
      · rw [v3 q (by omega) h3] at hy
        exact sl p (q - 1) x y h1 (by omega) (by omega) hx hy
  · by_cases hp2 : p = i
    · subst hp2
      rw [v2] at hx
      rw [v3 q (by omega) h3] at hy
      obtain ⟨u, hu⟩ := gl p (by omega)
      exact leR_tr _ _ _ (hr (by omega) x u hx hu) (sl p (q - 1) u y (by omega) (by omega) (by omega) hu hy)
    · rw [v3 p (by omega) (by omega)] at hx
      rw [v3 q (by omega) h3] at hy
      exact hs (p - 1) (q - 1) x y (by omega) (by omega) (by omega) hx hy
/-- One more step of a rotation by one. -/
theorem rot_front_step {ds dk : List Own1} {a k : Nat} {x y : Own1} (hak : a ≤ k) (r : Rot a (a + 1) (k + 1) ds dk) (hx : dk[k]? = some x) (hy : dk[k + 1]? = some y) : Rot a (a + 1) (k + 2) ds ((dk.set k y).set (k + 1) x) := by
  have l1 : k < dk.length := (List.getElem?_eq_some_iff.1 hx).1
  have l2 : k + 1 < dk.length := (List.getElem?_eq_some_iff.1 hy).1
  have e1 : ((dk.set k y).set (k + 1) x)[k]? = some y := by rw [List.getElem?_set_ne (by omega), List.getElem?_set_self l1]
  have e2 : ((dk.set k y).set (k + 1) x)[k + 1]? = some x := by rw [List.getElem?_set_self (by simpa using l2)]
  have e3 : ∀ t, t ≠ k → t ≠ k + 1 → ((dk.set k y).set (k + 1) x)[t]? = dk[t]? := fun t h1 h2 => by rw [List.getElem?_set_ne (by omega), List.getElem?_set_ne (by omega)]
  refine ⟨(swap_perm dk _ _ x y hx hy).trans r.perm, fun t ht => ?_, fun t h1 h2 => ?_, fun t h1 h2 => ?_⟩
  · rw [e3 t (by omega) (by omega), r.out t (by omega)]
  · by_cases hk : t = k
    · subst hk
      rw [e1, ← hy, r.out (t + 1) (by omega)]
      congr 1
      omega
    · rw [e3 t hk (by omega), r.lo t h1 (by omega)]
  · obtain rfl : t = k + 1 := by omega
    rw [e2, ← hx, r.hi k (by omega) (by omega)]
    congr 1
    omega
theorem rot_back_step {ds dk : List Own1} {m k : Nat} {x y : Own1} (hkm : k + 1 ≤ m) (r : Rot (k + 1) m (m + 1) ds dk) (hx : dk[k + 1]? = some x) (hy : dk[k]? = some y) : Rot k m (m + 1) ds ((dk.set (k + 1) y).set k x) := by
  have l1 : k + 1 < dk.length := (List.getElem?_eq_some_iff.1 hx).1
  have l2 : k < dk.length := (List.getElem?_eq_some_iff.1 hy).1
  have e1 : ((dk.set (k + 1) y).set k x)[k]? = some x := by rw [List.getElem?_set_self (by simpa using l2)]
  have e2 : ((dk.set (k + 1) y).set k x)[k + 1]? = some y := by rw [List.getElem?_set_ne (by omega), List.getElem?_set_self l1]
  have e3 : ∀ t, t ≠ k → t ≠ k + 1 → ((dk.set (k + 1) y).set k x)[t]? = dk[t]? := fun t h1 h2 => by rw [List.getElem?_set_ne (by omega), List.getElem?_set_ne (by omega)]
  refine ⟨(swap_perm dk _ _ x y hx hy).trans r.perm, fun t ht => ?_, fun t h1 h2 => ?_, fun t h1 h2 => ?_⟩
  · rw [e3 t (by omega) (by omega), r.out t (by omega)]
  · obtain rfl : t = k := by omega
    rw [e1, ← hx, r.lo (t + 1) (by omega) (by omega)]
    congr 1
    omega
  · by_cases hk : t = k + 1
    · subst hk
      rw [e2, ← hy, r.out k (by omega)]
      congr 1
      omega
    · rw [e3 t (by omega) hk, r.hi t (by omega) h2]
end Go.Proofs.Ytamkbedbkjndgaa
