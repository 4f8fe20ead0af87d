/-
  Plain: stretches of lists that are in order; swaps, rotations, merges in place.
-/
import Derived.Test.YtamkbedbkjndgaaOwn
import Derived.Test.YtamkbedbkjndgaaCmp
import Derived.Test.YtamkbedbkjndgaaFam
import Derived.Test.YtamkbedbkjndgaaSg
import Derived.Test.YtamkbedbkjndgaaRow
import Derived.BigRegion
namespace Go.Proofs.Ytamkbedbkjndgaa
set_option linter.unusedVariables false
section
variable {α : Type}
/-- The stretch from a to b is in order. -/
def Srt (le : α → α → Prop) (ds : List α) (a b : Nat) : Prop := ∀ i j x y, a ≤ i → i < j → j < b → ds[i]? = some x → ds[j]? = some y → le x y
/-- The same things, turned about within the stretch from a to b. -/
structure Like (a b : Nat) (ds ds' : List α) : Prop where
  perm : ds'.Perm ds
  out : ∀ i, i < a ∨ b ≤ i → ds'[i]? = ds[i]?
  within : ∀ i x, a ≤ i → i < b → ds'[i]? = some x → ∃ j, a ≤ j ∧ j < b ∧ ds[j]? = some x
theorem Like.len {a b : Nat} {ds ds' : List α} (h : Like a b ds ds') : ds'.length = ds.length := h.perm.length_eq
theorem Like.refl (a b : Nat) (ds : List α) : Like a b ds ds := ⟨.refl _, fun _ _ => rfl, fun i x h1 h2 h => ⟨i, h1, h2, h⟩⟩
theorem Like.trans {a b : Nat} {x y z : List α} (h : Like a b x y) (k : Like a b y z) : Like a b x z :=
  ⟨k.perm.trans h.perm, fun i hi => (k.out i hi).trans (h.out i hi), fun i u h1 h2 h3 => by
    obtain ⟨j, j1, j2, j3⟩ := k.within i u h1 h2 h3
    exact h.within j u j1 j2 j3⟩
theorem Like.mono {a b a' b' : Nat} {x y : List α} (h : Like a b x y) (ha : a' ≤ a) (hb : b ≤ b') : Like a' b' x y :=
  ⟨h.perm, fun i hi => h.out i (by omega), fun i u h1 h2 h3 => by
    by_cases hi : a ≤ i ∧ i < b
    · obtain ⟨j, j1, j2, j3⟩ := h.within i u hi.1 hi.2 h3
      exact ⟨j, by omega, by omega, j3⟩
    · rw [h.out i (by omega)] at h3
      exact ⟨i, h1, h2, h3⟩⟩
theorem Like.none {a b : Nat} {x y : List α} (h : Like a b x y) (hab : b ≤ a) : y = x := List.ext_getElem? fun i => h.out i (by omega)
/-- Two things swapped. -/
theorem swap_perm (ds : List α) (i j : Nat) (x y : α) (hi : ds[i]? = some x) (hj : ds[j]? = some y) : ((ds.set i y).set j x).Perm ds := by
  obtain ⟨h1, rfl⟩ := List.getElem?_eq_some_iff.1 hi
  obtain ⟨h2, rfl⟩ := List.getElem?_eq_some_iff.1 hj
  have := Array.swap_perm (xs := ds.toArray) (i := i) (j := j) (by simpa using h1) (by simpa using h2)
  have h := this.toList
  simpa [Array.swap] using h
theorem swap_like (ds : List α) (a b i j : Nat) (x y : α) (hi : ds[i]? = some x) (hj : ds[j]? = some y) (i1 : a ≤ i) (i2 : i < b) (j1 : a ≤ j) (j2 : j < b) : Like a b ds ((ds.set i y).set j x) := by
  obtain ⟨h1, rfl⟩ := List.getElem?_eq_some_iff.1 hi
  obtain ⟨h2, rfl⟩ := List.getElem?_eq_some_iff.1 hj
  refine ⟨swap_perm ds i j _ _ hi hj, fun k hk => ?_, fun k u k1 k2 hk => ?_⟩
  · rw [List.getElem?_set_ne (by omega), List.getElem?_set_ne (by omega)]
  · by_cases e1 : j = k
    · subst e1
      rw [List.getElem?_set_self (by simpa using h2)] at hk
      cases hk
      exact ⟨i, i1, i2, hi⟩
    · rw [List.getElem?_set_ne e1] at hk
      by_cases e2 : i = k
      · subst e2
        rw [List.getElem?_set_self h1] at hk
        cases hk
        exact ⟨j, j1, j2, hj⟩
      · rw [List.getElem?_set_ne e2] at hk
        exact ⟨k, k1, k2, hk⟩
theorem Srt.sub {le : α → α → Prop} {ds : List α} {a b a' b' : Nat} (h : Srt le ds a b) (ha : a ≤ a') (hb : b' ≤ b) : Srt le ds a' b' :=
  fun i j x y h1 h2 h3 => h i j x y (by omega) h2 (by omega)
theorem Srt.one {le : α → α → Prop} {ds : List α} {a b : Nat} (h : b ≤ a + 1) : Srt le ds a b := fun i j x y h1 h2 h3 => absurd h2 (by omega)
theorem Srt.same {le : α → α → Prop} {ds ds' : List α} {a b : Nat} (h : Srt le ds a b) (he : ∀ i, a ≤ i → i < b → ds'[i]? = ds[i]?) : Srt le ds' a b :=
  fun i j x y h1 h2 h3 hx hy => h i j x y h1 h2 h3 (by rw [← he i h1 (by omega)]; exact hx) (by rw [← he j (by omega) h3]; exact hy)
/-- Two stretches in order, one wholly ahead of the other. -/
theorem Srt.join {le : α → α → Prop} {ds : List α} {a m b : Nat} (h1 : Srt le ds a m) (h2 : Srt le ds m b) (h : ∀ i j x y, a ≤ i → i < m → m ≤ j → j < b → ds[i]? = some x → ds[j]? = some y → le x y) : Srt le ds a b := by
  intro i j x y hi hij hj hx hy
  by_cases hm : j < m
  · exact h1 i j x y hi hij hm hx hy
  · by_cases hm2 : m ≤ i
    · exact h2 i j x y hm2 hij hj hx hy
    · exact h i j x y hi (by omega) (by omega) hj hx hy
/-- One wholly ahead of the other stays so. -/
theorem ahead_like {le : α → α → Prop} {ds ds' : List α} {a m b : Nat} (h : ∀ i j x y, a ≤ i → i < m → m ≤ j → j < b → ds[i]? = some x → ds[j]? = some y → le x y) (l : Like a m ds ds') : ∀ i j x y, a ≤ i → i < m → m ≤ j → j < b → ds'[i]? = some x → ds'[j]? = some y → le x y := by
  intro i j x y i1 i2 j1 j2 hx hy
  obtain ⟨k, k1, k2, hk⟩ := l.within i x i1 i2 hx
  rw [l.out j (by omega)] at hy
  exact h k j x y k1 k2 j1 j2 hk hy
theorem ahead_like2 {le : α → α → Prop} {ds ds' : List α} {a m b : Nat} (h : ∀ i j x y, a ≤ i → i < m → m ≤ j → j < b → ds[i]? = some x → ds[j]? = some y → le x y) (l : Like m b ds ds') : ∀ i j x y, a ≤ i → i < m → m ≤ j → j < b → ds'[i]? = some x → ds'[j]? = some y → le x y := by
  intro i j x y i1 i2 j1 j2 hx hy
  obtain ⟨k, k1, k2, hk⟩ := l.within j y j1 j2 hy
  rw [l.out i (by omega)] at hx
  exact h i k x y i1 i2 k1 k2 hx hk
/-- What a rotation does: the stretch from m to b comes ahead of that from a to m. -/
structure Rot (a m b : Nat) (ds ds' : List α) : Prop where
  perm : ds'.Perm ds
  out : ∀ i, i < a ∨ b ≤ i → ds'[i]? = ds[i]?
  lo : ∀ i, a ≤ i → i < a + (b - m) → ds'[i]? = ds[i + (m - a)]?
  hi : ∀ i, a + (b - m) ≤ i → i < b → ds'[i]? = ds[i - (b - m)]?
theorem Rot.like {a m b : Nat} {ds ds' : List α} (h : Rot a m b ds ds') (h1 : a ≤ m) (h2 : m ≤ b) : Like a b ds ds' :=
  ⟨h.perm, h.out, fun i x i1 i2 hx => by
    by_cases hi : i < a + (b - m)
    · rw [h.lo i i1 hi] at hx
      exact ⟨i + (m - a), by omega, by omega, hx⟩
    · rw [h.hi i (by omega) i2] at hx
      exact ⟨i - (b - m), by omega, by omega, hx⟩⟩
/-- The two searched places part the stretch: all left of mid is ahead of all right of it. -/
theorem sym_parts {le : α → α → Prop} (tr : ∀ x y z, le x y → le y z → le x z) (rf : ∀ x, le x x) {ds ds' : List α} {a m b mid s e : Nat} (hb : b ≤ ds.length) (h1 : Srt le ds a m) (h2 : Srt le ds m b) (hs : a ≤ s) (hsm : s ≤ m) (hme : m ≤ e) (heb : e ≤ b) (hmid : s + (e - m) = mid)
    (hlo : a < s → e < b → ∀ x y, ds[s - 1]? = some x → ds[e]? = some y → le x y) (hhi : s < m → m < e → ∀ x y, ds[e - 1]? = some x → ds[s]? = some y → le x y) (r : Rot s m e ds ds') :
    Srt le ds' a s ∧ Srt le ds' s mid ∧ Srt le ds' mid e ∧ Srt le ds' e b ∧ (∀ i j x y, a ≤ i → i < mid → mid ≤ j → j < b → ds'[i]? = some x → ds'[j]? = some y → le x y) := by
  have le' : ∀ {i j x y}, a ≤ i → i ≤ j → j < m → ds[i]? = some x → ds[j]? = some y → le x y := fun {i j x y} h3 h4 h5 hx hy => by
    rcases Nat.eq_or_lt_of_le h4 with rfl | h6
    · rw [hx] at hy; cases hy; exact rf _
    · exact h1 i j x y h3 h6 h5 hx hy
  have re' : ∀ {i j x y}, m ≤ i → i ≤ j → j < b → ds[i]? = some x → ds[j]? = some y → le x y := fun {i j x y} h3 h4 h5 hx hy => by
    rcases Nat.eq_or_lt_of_le h4 with rfl | h6
    · rw [hx] at hy; cases hy; exact rf _
    · exact h2 i j x y h3 h6 h5 hx hy
  refine ⟨?_, ?_, ?_, ?_, ?_⟩
  · exact (h1.sub (Nat.le_refl _) hsm).same fun i _ hi => r.out i (.inl hi)
  · intro i j x y hi hij hj hx hy
    rw [r.lo i (by omega) (by omega)] at hx
    rw [r.lo j (by omega) (by omega)] at hy
    exact h2 _ _ x y (by omega) (by omega) (by omega) hx hy
  · intro i j x y hi hij hj hx hy
    rw [r.hi i (by omega) (by omega)] at hx
    rw [r.hi j (by omega) (by omega)] at hy
    exact h1 _ _ x y (by omega) (by omega) (by omega) hx hy
  · exact (h2.sub hme (Nat.le_refl _)).same fun i hi _ => r.out i (.inr hi)
  · intro i j x y i1 i2 j1 j2 hx hy
    have gl : ∀ k, k < b → ∃ z, ds[k]? = some z := fun k hk => ⟨_, List.getElem?_eq_getElem (by omega)⟩
    by_cases hi : i < s
    · rw [r.out i (.inl hi)] at hx
      by_cases hj : j < e
      · rw [r.hi j (by omega) hj] at hy
        exact le' (by omega) (by omega) (by omega) hx hy
      · rw [r.out j (.inr (by omega))] at hy
        obtain ⟨u, hu⟩ := gl (s - 1) (by omega)
        obtain ⟨v, hv⟩ := gl e (by omega)
        have := hlo (by omega) (by omega) u v hu hv
        exact tr _ _ _ (le' i1 (by omega) (by omega) hx hu) (tr _ _ _ this (re' (by omega) (by omega) j2 hv hy))
    · rw [r.lo i (by omega) (by omega)] at hx
      by_cases hj : j < e
      · rw [r.hi j (by omega) hj] at hy
        obtain ⟨u, hu⟩ := gl (e - 1) (by omega)
        obtain ⟨v, hv⟩ := gl s (by omega)
        have := hhi (by omega) (by omega) u v hu hv
        exact tr _ _ _ (re' (by omega) (by omega) (by omega) hx hu) (tr _ _ _ this (le' (by omega) (by omega) (by omega) hv hy))
      · rw [r.out j (.inr (by omega))] at hy
        exact re' (by omega) (by omega) j2 hx hy
end
end Go.Proofs.Ytamkbedbkjndgaa
namespace Go.Proofs.Ytamkbedbkjndgaa
open Go.RowKit Go
set_option linter.unusedVariables false
set_option linter.unusedSimpArgs false
theorem cmp_lt : ∀ xs ys : List UInt8, Lib.compareBytes xs ys < 0 ↔ xs < ys
  | [], [] => by simp [Lib.compareBytes]
  | [], _ :: _ => by simp [Lib.compareBytes]
  | _ :: _, [] => by simp [Lib.compareBytes]
  | a :: x, b :: y => by
    have ih := cmp_lt x y
    rw [List.cons_lt_cons_iff]
    simp only [Lib.compareBytes]
    by_cases h : a < b
    · simp [h]
    · by_cases h2 : b < a
      · have hne : (a == b) = false := by
          simp only [beq_eq_false_iff_ne]
          rintro rfl
          exact h h2
        have hne2 : a ≠ b := by
          rintro rfl
          exact h h2
        simp [h, h2, hne, hne2]
      · have heq : a = b := by
          apply UInt8.toNat_inj.1
          have h3 : ¬ a.toNat < b.toNat := fun e => h (UInt8.lt_iff_toNat_lt.2 e)
          have h4 : ¬ b.toNat < a.toNat := fun e => h2 (UInt8.lt_iff_toNat_lt.2 e)
          omega
        subst heq
        simp [h, ih]
/-- One text is not behind another. -/
def leR (x y : Own1) : Prop := x.2.2.2 ≤ y.2.2.2
theorem leR_tr : ∀ x y z, leR x y → leR y z → leR x z := fun _ _ _ h k => List.le_trans h k
theorem leR_rf : ∀ x, leR x x := fun x => List.not_lt.1 (List.lt_irrefl _)
theorem leR_of_not {x y : Own1} (h : ¬ Lib.compareBytes y.2.2.2 x.2.2.2 < 0) : leR x y := List.not_lt.1 (fun e => h ((cmp_lt _ _).2 e))
theorem leR_of_lt {x y : Own1} (h : Lib.compareBytes x.2.2.2 y.2.2.2 < 0) : leR x y := by
  have h1 := (cmp_lt _ _).1 h
  rcases List.le_total x.2.2.2 y.2.2.2 with h2 | h2
  · exact h2
  · exact absurd h1 (List.not_lt.2 h2)
def txt (x : Own1) : List UInt8 := x.2.2.2
/-- Texts in their order. -/
def sortQ (l : List (List UInt8)) : List (List UInt8) := l.mergeSort fun a b => decide (a ≤ b)
theorem sortQ_uniq {l l' : List (List UInt8)} (hp : l'.Perm l) (hs : l'.Pairwise (· ≤ ·)) : l' = sortQ l := by
  refine List.Perm.eq_of_pairwise (le := fun a b : List UInt8 => a ≤ b) (fun a b _ _ h1 h2 => List.le_antisymm h1 h2) hs ?_ (hp.trans (List.mergeSort_perm _ _).symm)
  have := List.pairwise_mergeSort (le := fun a b : List UInt8 => decide (a ≤ b)) (fun a b c h1 h2 => by simp only [decide_eq_true_eq] at *; exact List.le_trans h1 h2) (fun a b => by simp only [Bool.or_eq_true, decide_eq_true_eq]; exact List.le_total a b) l
  exact this.imp (fun h => by simpa using h)
theorem sortQ_of {ds ds' : List Own1} {n : Nat} (hn : ds'.length = n) (h : ds'.Perm ds) (hs : Srt leR ds' 0 n) : ds'.map txt = sortQ (ds.map txt) := by
  refine sortQ_uniq (h.map txt) ?_
  rw [List.pairwise_map, List.pairwise_iff_getElem]
  intro i j hi hj hij
  exact hs i j _ _ (Nat.zero_le _) hij (by omega) (List.getElem?_eq_getElem hi) (List.getElem?_eq_getElem hj)
theorem sortQ_perm (l : List (List UInt8)) : (sortQ l).Perm l := List.mergeSort_perm _ _
theorem sortQ_pair (l : List (List UInt8)) : (sortQ l).Pairwise (· ≤ ·) := by
  have := List.pairwise_mergeSort (le := fun a b : List UInt8 => decide (a ≤ b)) (fun a b c h1 h2 => by simp only [decide_eq_true_eq] at *; exact List.le_trans h1 h2) (fun a b => by simp only [Bool.or_eq_true, decide_eq_true_eq]; exact List.le_total a b) l
  exact this.imp (fun h => by simpa using h)
theorem sortQ_of_perm {l l' : List (List UInt8)} (h : l'.Perm l) : sortQ l' = sortQ l := sortQ_uniq ((sortQ_perm l').trans h) (sortQ_pair l')
end Go.Proofs.Ytamkbedbkjndgaa
namespace Go.Proofs.Ytamkbedbkjndgaa
open Go.RowKit Go
set_option linter.unusedVariables false
set_option linter.unusedSimpArgs false
set_option maxRecDepth 100000
/-- A row of texts under sorting: its cells, and that all else is as it was. -/
structure ST (w0 : World) (g n c : Nat) (ds : List Own1) (W : World) : Prop where
  own : OwnR W w0.heap.size 22 1 (some ⟨g, 0, none⟩) n c (ds.map Own1.val)
  bel : Below w0.heap.size w0 W
  ok : ∀ x ∈ ds, RB w0 x.1 x.2.1 x.2.2.2
section
variable {w0 W W' : World} {g n c : Nat} {ds : List Own1}
theorem ST.len (h : ST w0 g n c ds W) : ds.length = n := by have := h.own.len; simpa using this
theorem ST.drew (h : ST w0 g n c ds W) : ST w0 g n c ds W.drew := ⟨h.own.drew, h.bel.drew, h.ok⟩
theorem ST.drewN (h : ST w0 g n c ds W) (k : Nat) : ST w0 g n c ds (W.drewN k) := ⟨h.own.drewN k, kp_drewN h.bel k, h.ok⟩
theorem ST.cell (h : ST w0 g n c ds W) {i : Nat} {x : Own1} (hx : ds[i]? = some x) : W.cell? ⟨g, i, none⟩ = some (.slice x.1 x.2.1 x.2.2.1) := by
  obtain ⟨b, off, e, _, hc⟩ := h.own.reads.at_ (j := i) (u := x.val) (by rw [List.getElem?_map, hx]; rfl)
  cases e
  simpa [Own1.val] using hc
theorem ST.free (h : ST w0 g n c ds W) (i : Nat) : W.frozen? ⟨g, i, none⟩ = false := h.own.free i
theorem ST.rb (h : ST w0 g n c ds W) {i : Nat} {x : Own1} (hx : ds[i]? = some x) (hb : Below w0.heap.size w0 W') : RB W' x.1 x.2.1 x.2.2.2 := (h.ok x (List.mem_of_getElem? hx)).below hb
theorem ST.get (h : ST w0 g n c ds W) {i : Nat} (hi : i < n) : ∃ x, ds[i]? = some x := ⟨_, List.getElem?_eq_getElem (by rw [h.len]; exact hi)⟩
theorem ST.ge (h : ST w0 g n c ds W) : w0.heap.size ≤ g := (h.own.blk_lt rfl).1
theorem ST.swap (h : ST w0 g n c ds W) {i j : Nat} {x y : Own1} (hi : ds[i]? = some x) (hj : ds[j]? = some y) : ST w0 g n c ((ds.set i y).set j x) ((W.setCell ⟨g, i, none⟩ (.slice y.1 y.2.1 y.2.2.1)).setCell ⟨g, j, none⟩ (.slice x.1 x.2.1 x.2.2.1)) := by
  have hg := h.ge
  refine ⟨?_, kp_set (kp_set h.bel hg) hg, fun z hz => h.ok z ((swap_perm ds i j x y hi hj).mem_iff.1 hz)⟩
  have := (h.own.stored i y.val).stored j x.val
  rw [← List.map_set, ← List.map_set] at this
  exact this
theorem ST.cell2 (h : ST w0 g n c ds W) {i j : Nat} {y : Own1} (hj : ds[j]? = some y) (hne : i ≠ j) (v : Value) : (W.setCell ⟨g, i, none⟩ v).cell? ⟨g, j, none⟩ = some (.slice y.1 y.2.1 y.2.2.1) :=
  (World.cell?_setCell_other _ _ _ _ (by intro e; simp only [Addr.mk.injEq] at e; omega)).trans (h.cell hj)
end
/-- Two stretches of k, swapped. -/
structure SwR (a b k : Nat) (ds ds' : List Own1) : Prop where
  perm : ds'.Perm ds
  fst : ∀ i, i < k → ds'[a + i]? = ds[b + i]?
  snd : ∀ i, i < k → ds'[b + i]? = ds[a + i]?
  out : ∀ j, (j < a ∨ a + k ≤ j) → (j < b ∨ b + k ≤ j) → ds'[j]? = ds[j]?
theorem SwR.zero (a b : Nat) (ds : List Own1) : SwR a b 0 ds ds := ⟨.refl _, fun i h => absurd h (Nat.not_lt_zero _), fun i h => absurd h (Nat.not_lt_zero _), fun _ _ _ => rfl⟩
theorem SwR.step {a b k : Nat} {ds dk : List Own1} {x y : Own1} (h : SwR a b k ds dk) (hd : a + k < b ∨ b + k < a) (hx : dk[a + k]? = some x) (hy : dk[b + k]? = some y) : SwR a b (k + 1) ds ((dk.set (a + k) y).set (b + k) x) := by
  have l1 : a + k < dk.length := (List.getElem?_eq_some_iff.1 hx).1
  have l2 : b + k < dk.length := (List.getElem?_eq_some_iff.1 hy).1
  have ex : ds[a + k]? = some x := by rw [← hx]; exact (h.out _ (by omega) (by omega)).symm
  have ey : ds[b + k]? = some y := by rw [← hy]; exact (h.out _ (by omega) (by omega)).symm
  refine ⟨(swap_perm dk _ _ x y hx hy).trans h.perm, fun i hi => ?_, fun i hi => ?_, fun j h1 h2 => ?_⟩
  · rw [List.getElem?_set_ne (by omega)]
    by_cases e : i = k
    · subst e
      rw [List.getElem?_set_self l1, ey]
    · rw [List.getElem?_set_ne (by omega)]
      exact h.fst i (by omega)
  · by_cases e : i = k
    · subst e
      rw [List.getElem?_set_self (by simpa using l2), ex]
    · rw [List.getElem?_set_ne (by omega), List.getElem?_set_ne (by omega)]
      exact h.snd i (by omega)
  · rw [List.getElem?_set_ne (by omega), List.getElem?_set_ne (by omega)]
    exact h.out j (by omega) (by omega)
set_option maxHeartbeats 1000000 in
theorem swapRange_any (w0 W : World) (g n c a b k : Nat) (ds : List Own1) (fn : Value) (hS : ST w0 g n c ds W) (hn : n ≤ 1000000000) (ha : a + k ≤ n) (hb : b + k ≤ n) (hd : a + k ≤ b ∨ b + k ≤ a) :
    Calls Try.prog 57 #[.slice (some ⟨g, 0, none⟩) n c, .int .i64 (a : Int), .int .i64 (b : Int), .int .i64 (k : Int), fn] W fun e w' => e = .returned (.tuple #[]) ∧ ∃ ds', ST w0 g n c ds' w' ∧ SwR a b k ds ds' := by
  have HS := Lib.hid hS
  clear hS
  go_enter Try.func57, Try.ntmps57
  go_wp2
  go_loopw [10] (fun i wl => ∃ (j : Nat) (dk : List Own1), i = .int .i64 (j : Int) ∧ j ≤ k ∧ Hid (ST w0 g n c dk wl ∧ SwR a b j ds dk)) (fun i _ => k - (intOf i).toNat)
  case atStart => exact ⟨0, ds, rfl, Nat.zero_le _, HS.out, SwR.zero _ _ _⟩
  case round =>
    obtain ⟨j, dk, rfl, hj, HK⟩ := hrel
    by_cases hlt : j < k
    · obtain ⟨hs, hr⟩ := HK.out
      obtain ⟨x, hx⟩ := hs.get (show a + j < n by omega)
      obtain ⟨y, hy⟩ := hs.get (show b + j < n by omega)
      have c1 := hs.cell hx
      have c2 := hs.cell hy
      have f1 := hs.free (a + j)
      have f2 := hs.free (b + j)
      have c3 := hs.cell2 (i := a + j) hy (by omega) (.slice y.1 y.2.1 y.2.2.1)
      have HN : Hid (ST w0 g n c ((dk.set (a + j) y).set (b + j) x) ((wr.setCell ⟨g, a + j, none⟩ (.slice y.1 y.2.1 y.2.2.1)).setCell ⟨g, b + j, none⟩ (.slice x.1 x.2.1 x.2.2.1)) ∧ SwR a b (j + 1) ds ((dk.set (a + j) y).set (b + j) x)) := ⟨hs.swap hx hy, hr.step (by omega) hx hy⟩
      clear hs hr hx hy
      have s1 : IntKind.i64.wrap ((a : Int) + (j : Int)) = (a : Int) + (j : Int) := by rw [IntKind.wrap_i64]; omega
      have s2 : IntKind.i64.wrap ((b : Int) + (j : Int)) = (b : Int) + (j : Int) := by rw [IntKind.wrap_i64]; omega
      have p1 : (0 : Int) ≤ (a : Int) + (j : Int) := by omega
      have p2 : (0 : Int) ≤ (b : Int) + (j : Int) := by omega
      have b1 : (a : Int) + (j : Int) < (n : Int) := by omega
      have b2 : (b : Int) + (j : Int) < (n : Int) := by omega
      have n1 : ((a : Int) + (j : Int)).toNat = a + j := by omega
      have n2 : ((b : Int) + (j : Int)).toNat = b + j := by omega
      obtain ⟨xa, xn, xc, xb⟩ := x
      obtain ⟨ya, yn, yc, yb⟩ := y
      simp only at c1 c2 c3
      go_wp2_with fail
      go_region
      all_goals
        clear s1 s2 n1 n2
        go_wp2
        go_roundw
        case rel => exact ⟨j + 1, _, by go_num, by omega, HN.out.1.drew, HN.out.2⟩
        case measure => simp [intOf]; omega
    · obtain rfl : j = k := by omega
      go_wp2
      go_end0
      exact ⟨rfl, dk, HK.out⟩
end Go.Proofs.Ytamkbedbkjndgaa
namespace Go.Proofs.Ytamkbedbkjndgaa
open Go.RowKit Go
set_option linter.unusedVariables false
set_option linter.unusedSimpArgs false
set_option maxRecDepth 100000
theorem Rot.same_l (m e : Nat) (ds : List Own1) : Rot m m e ds ds := ⟨.refl _, fun _ _ => rfl, fun i _ _ => by rw [Nat.sub_self, Nat.add_zero], fun i h1 h2 => absurd h2 (by omega)⟩
theorem Rot.same_r (s m : Nat) (ds : List Own1) : Rot s m m ds ds := ⟨.refl _, fun _ _ => rfl, fun i h1 h2 => absurd h2 (by omega), fun i _ _ => by rw [Nat.sub_self, Nat.sub_zero]⟩
theorem rot_more_l {m i j p : Nat} {dk dl X : List Own1} (hp : p + i = m) (hji : j < i) (s : SwR p m j dk dl) (r : Rot (p + j) m (m + j) dl X) : Rot p m (m + j) dk X := by
  refine ⟨r.perm.trans s.perm, fun t ht => ?_, fun t h1 h2 => ?_, fun t h1 h2 => ?_⟩
  · rw [r.out t (by omega), s.out t (by omega) (by omega)]
  · obtain ⟨u, rfl⟩ : ∃ u, t = p + u := ⟨t - p, by omega⟩
    rw [r.out _ (by omega), s.fst u (by omega)]
    congr 1
    omega
  · by_cases h3 : t < p + j + (m + j - m)
    · rw [r.lo t (by omega) h3]
      obtain ⟨u, hu⟩ : ∃ u, t + (m - (p + j)) = m + u := ⟨t - p - j, by omega⟩
      rw [hu, s.snd u (by omega)]
      congr 1
      omega
    · rw [r.hi t (by omega) h2, s.out _ (by omega) (by omega)]
theorem rot_more_r {m i j p q : Nat} {dk dl X : List Own1} (hp : p + i = m) (hq : q + i = m + j) (hij : i < j) (s : SwR p q i dk dl) (r : Rot p m (m + (j - i)) dl X) : Rot p m (m + j) dk X := by
  refine ⟨r.perm.trans s.perm, fun t ht => ?_, fun t h1 h2 => ?_, fun t h1 h2 => ?_⟩
  · rw [r.out t (by omega), s.out t (by omega) (by omega)]
  · by_cases h3 : t < p + (m + (j - i) - m)
    · rw [r.lo t h1 h3]
      by_cases h4 : t + (m - p) < q
      · rw [s.out _ (by omega) (by omega)]
      · omega
    · rw [r.hi t (by omega) (by omega)]
      obtain ⟨u, hu⟩ : ∃ u, t - (m + (j - i) - m) = p + u := ⟨t - (m + (j - i) - m) - p, by omega⟩
      rw [hu, s.fst u (by omega)]
      congr 1
      omega
  · rw [r.out t (by omega)]
    obtain ⟨u, rfl⟩ : ∃ u, t = q + u := ⟨t - q, by omega⟩
    rw [s.snd u (by omega)]
    congr 1
    omega
theorem rot_last {m i p : Nat} {dk dl : List Own1} (hp : p + i = m) (s : SwR p m i dk dl) : Rot p m (m + i) dk dl := by
  refine ⟨s.perm, fun t ht => s.out t (by omega) (by omega), fun t h1 h2 => ?_, fun t h1 h2 => ?_⟩
  · obtain ⟨u, rfl⟩ : ∃ u, t = p + u := ⟨t - p, by omega⟩
    rw [s.fst u (by omega)]
    congr 1
    omega
  · obtain ⟨u, rfl⟩ : ∃ u, t = m + u := ⟨t - m, by omega⟩
    rw [s.snd u (by omega)]
    congr 1
    omega
/-- All pairs up to i are in order but those whose second is at j. -/
def InJ (ds : List Own1) (a i j : Nat) : Prop := ∀ p q x y, a ≤ p → p < q → q ≤ i → q ≠ j → ds[p]? = some x → ds[q]? = some y → leR x y
theorem inj_start {ds : List Own1} {a i : Nat} (h : Srt leR ds a i) : InJ ds a i i := fun p q x y h1 h2 h3 h4 hx hy => h p q x y h1 h2 (by omega) hx hy
theorem inj_step {ds : List Own1} {a i j : Nat} {x y : Own1} (h : InJ ds a i (j + 1)) (hj : a ≤ j) (hji : j + 1 ≤ i) (hx : ds[j]? = some x) (hy : ds[j + 1]? = some y) (hlt : leR y x) : InJ ((ds.set (j + 1) x).set j y) a i j := by
  have l1 : j < ds.length := (List.getElem?_eq_some_iff.1 hx).1
  have l2 : j + 1 < ds.length := (List.getElem?_eq_some_iff.1 hy).1
  have e1 : ((ds.set (j + 1) x).set j y)[j]? = some y := by rw [List.getElem?_set_self (by simpa using l1)]
  have e2 : ((ds.set (j + 1) x).set j y)[j + 1]? = some x := by rw [List.getElem?_set_ne (by omega), List.getElem?_set_self l2]
  have e3 : ∀ t, t ≠ j → t ≠ j + 1 → ((ds.set (j + 1) x).set j y)[t]? = ds[t]? := fun t h1 h2 => by rw [List.getElem?_set_ne (by omega), List.getElem?_set_ne (by omega)]
  intro p q u v h1 h2 h3 h4 hu hv
  by_cases q1 : q = j + 1
  · subst q1
    rw [e2] at hv
    cases hv
    by_cases p1 : p = j
    · subst p1; rw [e1] at hu; cases hu; exact hlt
    · rw [e3 p p1 (by omega)] at hu
      exact h p j u _ h1 (by omega) (by omega) (by omega) hu hx
  · rw [e3 q h4 q1] at hv
    by_cases p1 : p = j
    · subst p1; rw [e1] at hu; cases hu
      exact h _ q _ v (by omega) (by omega) h3 q1 hy hv
    · by_cases p2 : p = j + 1
      · subst p2; rw [e2] at hu; cases hu
        exact h j q _ v hj (by omega) h3 q1 hx hv
      · rw [e3 p p1 p2] at hu
        exact h p q u v h1 h2 h3 q1 hu hv
theorem inj_stop {ds : List Own1} {a i j : Nat} (h : InJ ds a i (j + 1)) (hj : a ≤ j) {x y : Own1} (hx : ds[j]? = some x) (hy : ds[j + 1]? = some y) (hle : leR x y) : Srt leR ds a (i + 1) := by
  intro p q u v h1 h2 h3 hu hv
  by_cases q1 : q = j + 1
  · subst q1
    rw [hy] at hv
    cases hv
    by_cases p1 : p = j
    · subst p1; rw [hx] at hu; cases hu; exact hle
    · by_cases hji : j ≤ i
      · exact leR_tr _ _ _ (h p j u x h1 (by omega) hji (by omega) hu hx) hle
      · omega
  · exact h p q u v h1 h2 (by omega) q1 hu hv
theorem inj_first {ds : List Own1} {a i : Nat} (h : InJ ds a i a) : Srt leR ds a (i + 1) := fun p q u v h1 h2 h3 hu hv => h p q u v h1 h2 (by omega) (by omega) hu hv
/-- The first one put in its place behind those that are less. -/
theorem ins_front {ds ds' : List Own1} {a b i : Nat} (hai : a + 1 ≤ i) (hib : i ≤ b) (hb : b ≤ ds.length) (hs : Srt leR ds (a + 1) b) (hl : a + 1 < i → ∀ x y, ds[i - 1]? = some x → ds[a]? = some y → leR x y) (hr : i < b → ∀ x y, ds[a]? = some x → ds[i]? = some y → leR x y) (r : Rot a (a + 1) i ds ds') : Srt leR ds' a b := by
  have gl : ∀ k, k < b → ∃ z, ds[k]? = some z := fun k hk => ⟨_, List.getElem?_eq_getElem (by omega)⟩
  have sl : ∀ p q x y, a + 1 ≤ p → p ≤ q → q < b → ds[p]? = some x → ds[q]? = some y → leR x y := fun p q x y h1 h2 h3 hx hy => by
    rcases Nat.eq_or_lt_of_le h2 with rfl | h4
    · rw [hx] at hy; cases hy; exact leR_rf _
    · exact hs p q x y h1 h4 h3 hx hy
  have v1 : ∀ p, a ≤ p → p < i - 1 → ds'[p]? = ds[p + 1]? := fun p h1 h2 => by rw [r.lo p h1 (by omega)]; congr 1; omega
  have v2 : ds'[i - 1]? = ds[a]? := by rw [r.hi (i - 1) (by omega) (by omega)]; congr 1; omega
  have v3 : ∀ p, i ≤ p → ds'[p]? = ds[p]? := fun p h => r.out p (.inr h)
  intro p q x y h1 h2 h3 hx hy
  by_cases hp : p < i - 1
  · rw [v1 p h1 hp] at hx
    by_cases hq : q < i - 1
    · rw [v1 q (by omega) hq] at hy
      exact hs _ _ x y (by omega) (by omega) (by omega) hx hy
    · by_cases hq2 : q = i - 1
      · subst hq2
        rw [v2] at hy
        obtain ⟨u, hu⟩ := gl (i - 1) (by omega)
        exact leR_tr _ _ _ (sl (p + 1) (i - 1) x u (by omega) (by omega) (by omega) hx hu) (hl (by omega) u y hu hy)
      · rw [v3 q (by omega)] at hy
        exact hs _ _ x y (by omega) (by omega) h3 hx hy
  · by_cases hp2 : p = i - 1
    · subst hp2
      rw [v2] at hx
      rw [v3 q (by omega)] at hy
      obtain ⟨u, hu⟩ := gl i (by omega)
      exact leR_tr _ _ _ (hr (by omega) x u hx hu) (sl i q u y (by omega) (by omega) h3 hu hy)
    · rw [v3 p (by omega)] at hx
      rw [v3 q (by omega)] at hy
      exact hs p q x y (by omega) h2 h3 hx hy
/-- The last one put in its place ahead of those that are greater. -/
theorem ins_back {ds ds' : List Own1} {a m i : Nat} (hai : a ≤ i) (him : i ≤ m) (hb : m < ds.length) (hs : Srt leR ds a m) (hl : a < i → ∀ x y, ds[i - 1]? = some x → ds[m]? = some y → leR x y) (hr : i < m → ∀ x y, ds[m]? = some x → ds[i]? = some y → leR x y) (r : Rot i m (m + 1) ds ds') : Srt leR ds' a (m + 1) := by
  have gl : ∀ k, k ≤ m → ∃ z, ds[k]? = some z := fun k hk => ⟨_, List.getElem?_eq_getElem (by omega)⟩
  have sl : ∀ p q x y, a ≤ p → p ≤ q → q < m → ds[p]? = some x → ds[q]? = some y → leR x y := fun p q x y h1 h2 h3 hx hy => by
    rcases Nat.eq_or_lt_of_le h2 with rfl | h4
    · rw [hx] at hy; cases hy; exact leR_rf _
    · exact hs p q x y h1 h4 h3 hx hy
  have v1 : ∀ p, p < i → ds'[p]? = ds[p]? := fun p h => r.out p (.inl h)
  have v2 : ds'[i]? = ds[m]? := by rw [r.lo i (by omega) (by omega)]; congr 1; omega
  have v3 : ∀ p, i + 1 ≤ p → p < m + 1 → ds'[p]? = ds[p - 1]? := fun p h1 h2 => by rw [r.hi p (by omega) h2]; congr 1; omega
  intro p q x y h1 h2 h3 hx hy
  by_cases hp : p < i
  · rw [v1 p hp] at hx
    by_cases hq : q < i
    · rw [v1 q hq] at hy
      exact hs p q x y h1 h2 (by omega) hx hy
    · by_cases hq2 : q = i
      · subst hq2
        rw [v2] at hy
        obtain ⟨u, hu⟩ := gl (q - 1) (by omega)
        exact leR_tr _ _ _ (sl p (q - 1) x u h1 (by omega) (by omega) hx hu) (hl (by omega) u y hu hy)
      · rw [v3 q (by omega) h3] at hy
        exact sl p (q - 1) x y h1 (by omega) (by omega) hx hy
  · by_cases hp2 : p = i
    · subst hp2
      rw [v2] at hx
      rw [v3 q (by omega) h3] at hy
      obtain ⟨u, hu⟩ := gl p (by omega)
      exact leR_tr _ _ _ (hr (by omega) x u hx hu) (sl p (q - 1) u y (by omega) (by omega) (by omega) hu hy)
    · rw [v3 p (by omega) (by omega)] at hx
      rw [v3 q (by omega) h3] at hy
      exact hs (p - 1) (q - 1) x y (by omega) (by omega) (by omega) hx hy
/-- One more step of a rotation by one. -/
theorem rot_front_step {ds dk : List Own1} {a k : Nat} {x y : Own1} (hak : a ≤ k) (r : Rot a (a + 1) (k + 1) ds dk) (hx : dk[k]? = some x) (hy : dk[k + 1]? = some y) : Rot a (a + 1) (k + 2) ds ((dk.set k y).set (k + 1) x) := by
  have l1 : k < dk.length := (List.getElem?_eq_some_iff.1 hx).1
  have l2 : k + 1 < dk.length := (List.getElem?_eq_some_iff.1 hy).1
  have e1 : ((dk.set k y).set (k + 1) x)[k]? = some y := by rw [List.getElem?_set_ne (by omega), List.getElem?_set_self l1]
  have e2 : ((dk.set k y).set (k + 1) x)[k + 1]? = some x := by rw [List.getElem?_set_self (by simpa using l2)]
  have e3 : ∀ t, t ≠ k → t ≠ k + 1 → ((dk.set k y).set (k + 1) x)[t]? = dk[t]? := fun t h1 h2 => by rw [List.getElem?_set_ne (by omega), List.getElem?_set_ne (by omega)]
  refine ⟨(swap_perm dk _ _ x y hx hy).trans r.perm, fun t ht => ?_, fun t h1 h2 => ?_, fun t h1 h2 => ?_⟩
  · rw [e3 t (by omega) (by omega), r.out t (by omega)]
  · by_cases hk : t = k
    · subst hk
      rw [e1, ← hy, r.out (t + 1) (by omega)]
      congr 1
      omega
    · rw [e3 t hk (by omega), r.lo t h1 (by omega)]
  · obtain rfl : t = k + 1 := by omega
    rw [e2, ← hx, r.hi k (by omega) (by omega)]
    congr 1
    omega
theorem rot_back_step {ds dk : List Own1} {m k : Nat} {x y : Own1} (hkm : k + 1 ≤ m) (r : Rot (k + 1) m (m + 1) ds dk) (hx : dk[k + 1]? = some x) (hy : dk[k]? = some y) : Rot k m (m + 1) ds ((dk.set (k + 1) y).set k x) := by
  have l1 : k + 1 < dk.length := (List.getElem?_eq_some_iff.1 hx).1
  have l2 : k < dk.length := (List.getElem?_eq_some_iff.1 hy).1
  have e1 : ((dk.set (k + 1) y).set k x)[k]? = some x := by rw [List.getElem?_set_self (by simpa using l2)]
  have e2 : ((dk.set (k + 1) y).set k x)[k + 1]? = some y := by rw [List.getElem?_set_ne (by omega), List.getElem?_set_self l1]
  have e3 : ∀ t, t ≠ k → t ≠ k + 1 → ((dk.set (k + 1) y).set k x)[t]? = dk[t]? := fun t h1 h2 => by rw [List.getElem?_set_ne (by omega), List.getElem?_set_ne (by omega)]
  refine ⟨(swap_perm dk _ _ x y hx hy).trans r.perm, fun t ht => ?_, fun t h1 h2 => ?_, fun t h1 h2 => ?_⟩
  · rw [e3 t (by omega) (by omega), r.out t (by omega)]
  · obtain rfl : t = k := by omega
    rw [e1, ← hx, r.lo (t + 1) (by omega) (by omega)]
    congr 1
    omega
  · by_cases hk : t = k + 1
    · subst hk
      rw [e2, ← hy, r.out k (by omega)]
      congr 1
      omega
    · rw [e3 t (by omega) hk, r.hi t (by omega) h2]
end Go.Proofs.Ytamkbedbkjndgaa
