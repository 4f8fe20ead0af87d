/-
  measure: which bytes are hashed, as plain data.
-/
import Derived.Test.YtcedojmhgmgcgaaGreatDoorMp6
namespace Go.Proofs.YtcedojmhgmgcgaaGreatDoor
open Go.RowKit Go
set_option linter.unusedVariables false
set_option linter.unusedSimpArgs false
set_option maxRecDepth 100000
/-- The bytes from a place up to another one. -/
def seg (bs : List UInt8) (r : Nat × Nat) : List UInt8 := cut bs r.1 (r.2 - r.1)
/-- The ranges of rising sections. -/
def secR (l : List (Nat × Nat)) : List (Nat × Nat) := l.map fun s => (s.1, s.1 + s.2)
theorem seg_app (bs : List UInt8) (a b c : Nat) (h1 : a ≤ b) (h2 : b ≤ c) : seg bs (a, b) ++ seg bs (b, c) = seg bs (a, c) := by
  unfold seg cut
  simp only
  rw [show c - a = (b - a) + (c - b) by omega, List.take_add, List.drop_drop, show a + (b - a) = b by omega]
theorem seg_nil (bs : List UInt8) (a : Nat) : seg bs (a, a) = [] := by
  unfold seg cut
  simp
theorem chainR_end : ∀ (l : List (Nat × Nat)) (e : Nat), (chainR l e).1 = true → e ≤ (chainR l e).2
  | [], e, _ => Nat.le_refl _
  | x :: r, e, h => by
    simp only [chainR, Bool.and_eq_true, decide_eq_true_eq] at h
    have := chainR_end r _ h.2
    simp only [chainR]
    omega
theorem chain_seg (bs : List UInt8) : ∀ (l : List (Nat × Nat)) (e : Nat), (chainR l e).1 = true → (secR l).flatMap (seg bs) = seg bs (e, (chainR l e).2)
  | [], e, _ => (seg_nil bs e).symm
  | x :: r, e, h => by
    simp only [chainR, Bool.and_eq_true, decide_eq_true_eq] at h
    have h3 := chainR_end r _ h.2
    have ih := chain_seg bs r _ h.2
    unfold secR at ih ⊢
    rw [List.map_cons, List.flatMap_cons, ih]
    simp only [chainR]
    rw [h.1]
    rw [h.1] at h3
    exact seg_app bs _ _ _ (by omega) h3
/-- Where what is hashed ends. -/
def endM (im : Im) (n : Nat) : Nat := if im.length = 0 then n else im.table
/-- The ranges of an image of n bytes whose sections, rising, are l. -/
def headR (im : Im) : List (Nat × Nat) := [(0, im.check), (im.check + 4, im.dir), (im.dir + 8, im.hdr)]
def tailR (last e : Nat) : List (Nat × Nat) := if last < e then [(last, e)] else []
def rangesL (im : Im) (l : List (Nat × Nat)) (n : Nat) : List (Nat × Nat) := headR im ++ secR l ++ tailR (chainR l im.hdr).2 (endM im n)
def hashedL (bs : List UInt8) (l : List (Nat × Nat)) : List UInt8 := l.flatMap (seg bs)
theorem tail_seg (bs : List UInt8) (a e : Nat) (h : a ≤ e) : (tailR a e).flatMap (seg bs) = seg bs (a, e) := by
  unfold tailR
  split
  · simp
  · obtain rfl : a = e := by omega
    rw [seg_nil]
    rfl
/-- What is hashed: all but the checksum, the entry and what lies behind the end. -/
theorem hashed_all (bs : List UInt8) (im : Im) (l : List (Nat × Nat)) (n : Nat) (h1 : (chainR l im.hdr).1 = true) (h2 : (chainR l im.hdr).2 ≤ endM im n) (h3 : im.dir + 8 ≤ im.hdr) :
    hashedL bs (rangesL im l n) = seg bs (0, im.check) ++ seg bs (im.check + 4, im.dir) ++ seg bs (im.dir + 8, endM im n) := by
  unfold hashedL rangesL headR
  rw [List.flatMap_append, List.flatMap_append, chain_seg bs l _ h1, tail_seg bs _ _ h2, List.append_assoc, seg_app bs _ _ _ (chainR_end l _ h1) h2]
  simp only [List.flatMap_cons, List.flatMap_nil, List.append_nil]
  rw [List.append_assoc, List.append_assoc]
  rw [seg_app bs _ _ _ h3 (Nat.le_trans (chainR_end l _ h1) h2), List.append_assoc]
/-- Whether a byte's place is hashed. -/
def hashB (ck dr i : Nat) : Bool := !(decide (ck ≤ i) && decide (i < ck + 4)) && !(decide (dr ≤ i) && decide (i < dr + 8))
def wantL (bs : List UInt8) (ck dr : Nat) : Nat → List UInt8
  | 0 => []
  | i + 1 => if hashB ck dr i = true then wantL bs ck dr i ++ cut bs i 1 else wantL bs ck dr i
theorem seg_snoc (bs : List UInt8) (a i : Nat) (h : a ≤ i) : seg bs (a, i + 1) = seg bs (a, i) ++ cut bs i 1 := by
  have := seg_app bs a i (i + 1) h (by omega)
  rw [← this]
  congr 1
  unfold seg
  simp only
  rw [show i + 1 - i = 1 by omega]
theorem want_all (bs : List UInt8) (ck dr : Nat) (h : ck + 4 ≤ dr) : ∀ e, wantL bs ck dr e =
    if e ≤ ck then seg bs (0, e) else if e ≤ ck + 4 then seg bs (0, ck) else if e ≤ dr then seg bs (0, ck) ++ seg bs (ck + 4, e) else if e ≤ dr + 8 then seg bs (0, ck) ++ seg bs (ck + 4, dr) else seg bs (0, ck) ++ seg bs (ck + 4, dr) ++ seg bs (dr + 8, e)
  | 0 => by rw [if_pos (Nat.zero_le _), seg_nil]; rfl
  | i + 1 => by
    have ih := want_all bs ck dr h i
    unfold wantL
    rw [ih]
    unfold hashB
    by_cases c1 : i + 1 ≤ ck
    · rw [if_pos c1, if_pos (show i ≤ ck by omega), if_pos (by simp; omega), seg_snoc bs 0 i (by omega)]
    · rw [if_neg c1]
      by_cases c2 : i + 1 ≤ ck + 4
      · rw [if_pos c2, if_neg (by simp; omega)]
        by_cases c3 : i ≤ ck
        · obtain rfl : i = ck := by omega
          rw [if_pos c3]
        · rw [if_neg c3, if_pos (by omega)]
      · rw [if_neg c2, if_neg (show ¬ i ≤ ck by omega)]
        by_cases c3 : i + 1 ≤ dr
        · rw [if_pos c3, if_pos (by simp; omega)]
          by_cases c4 : i ≤ ck + 4
          · obtain rfl : i = ck + 4 := by omega
            rw [if_pos c4, seg_snoc bs (ck + 4) _ (by omega), seg_nil, List.nil_append]
          · rw [if_neg c4, if_pos (by omega), seg_snoc bs (ck + 4) i (by omega), List.append_assoc]
        · rw [if_neg c3]
          by_cases c5 : i + 1 ≤ dr + 8
          · rw [if_pos c5, if_neg (by simp; omega)]
            by_cases c6 : i ≤ ck + 4
            · obtain rfl : i = dr := by omega
              obtain rfl : i = ck + 4 := by omega
              rw [if_pos c6, seg_nil, List.append_nil]
            · rw [if_neg c6]
              by_cases c7 : i ≤ dr
              · obtain rfl : i = dr := by omega
                rw [if_pos c7]
              · rw [if_neg c7, if_pos (by omega)]
          · rw [if_neg c5, if_pos (by simp; omega), if_neg (by omega), if_neg (by omega)]
            by_cases c8 : i ≤ dr + 8
            · obtain rfl : i = dr + 8 := by omega
              rw [if_pos c8, seg_snoc bs (dr + 8) _ (by omega), seg_nil, List.nil_append]
            · rw [if_neg c8, seg_snoc bs (dr + 8) i (by omega), ← List.append_assoc]
theorem want_end (bs : List UInt8) (ck dr e : Nat) (h : ck + 4 ≤ dr) (h2 : dr + 8 ≤ e) : wantL bs ck dr e = seg bs (0, ck) ++ seg bs (ck + 4, dr) ++ seg bs (dr + 8, e) := by
  rw [want_all bs ck dr h, if_neg (by omega), if_neg (by omega), if_neg (by omega)]
  by_cases h3 : e ≤ dr + 8
  · obtain rfl : e = dr + 8 := by omega
    rw [if_pos h3, seg_nil, List.append_nil]
  · rw [if_neg h3]
/-- The ranges rise, and lie within the bytes. -/
def riseB : List (Nat × Nat) → Nat → Nat → Prop
  | [], _, _ => True
  | x :: r, at_, n => at_ ≤ x.1 ∧ x.1 ≤ x.2 ∧ x.2 ≤ n ∧ riseB r x.2 n
theorem rise_app (n : Nat) : ∀ (l l' : List (Nat × Nat)) (a b : Nat), riseB l a n → (∀ x ∈ l, x.2 ≤ b) → a ≤ b → riseB l' b n → riseB (l ++ l') a n
  | [], [], a, b, _, _, _, _ => trivial
  | [], y :: s, a, b, _, _, hab, h => ⟨Nat.le_trans hab h.1, h.2⟩
  | x :: r, l', a, b, h, hx, hab, h' => ⟨h.1, h.2.1, h.2.2.1, rise_app n r l' x.2 b h.2.2.2 (fun y hy => hx y (List.mem_cons_of_mem _ hy)) (hx x (List.mem_cons_self ..)) h'⟩
theorem chain_rise (n : Nat) : ∀ (l : List (Nat × Nat)) (e : Nat), (chainR l e).1 = true → (chainR l e).2 ≤ n → riseB (secR l) e n ∧ ∀ x ∈ secR l, x.2 ≤ (chainR l e).2
  | [], e, _, _ => ⟨trivial, fun x hx => by cases hx⟩
  | x :: r, e, h, hn => by
    simp only [chainR, Bool.and_eq_true, decide_eq_true_eq] at h hn
    have h3 := chainR_end r _ h.2
    have ih := chain_rise n r _ h.2 hn
    refine ⟨⟨by simp only; omega, by simp only; omega, by simp only; omega, ih.1⟩, fun y hy => ?_⟩
    simp only [chainR]
    rcases List.mem_cons.1 (show y ∈ (x.1, x.1 + x.2) :: secR r from hy) with rfl | hy
    · exact h3
    · exact ih.2 y hy
theorem ranges_rise (im : Im) (l : List (Nat × Nat)) (n m : Nat) (h1 : (chainR l im.hdr).1 = true) (h2 : (chainR l im.hdr).2 ≤ endM im n) (h3 : im.dir + 8 ≤ im.hdr) (h4 : im.check + 4 ≤ im.dir) (h5 : endM im n ≤ m) : riseB (rangesL im l n) 0 m := by
  have h6 := chainR_end l _ h1
  obtain ⟨c1, c2⟩ := chain_rise m l _ h1 (by omega)
  unfold rangesL
  refine rise_app m _ _ 0 (chainR l im.hdr).2 (rise_app m _ _ 0 im.hdr ?_ ?_ (Nat.zero_le _) c1) ?_ (by omega) ?_
  · exact ⟨Nat.le_refl _, Nat.zero_le _, by simp only; omega, by simp only; omega, by simp only; omega, by simp only; omega, by simp only; omega, by simp only; omega, by simp only; omega, trivial⟩
  · intro x hx
    simp only [headR, List.mem_cons, List.not_mem_nil, or_false] at hx
    rcases hx with rfl | rfl | rfl <;> simp only <;> omega
  · intro x hx
    rcases List.mem_append.1 hx with hx | hx
    · simp only [headR, List.mem_cons, List.not_mem_nil, or_false] at hx
      rcases hx with rfl | rfl | rfl <;> simp only <;> omega
    · exact c2 x hx
  · unfold tailR
    split
    · exact ⟨Nat.le_refl _, by simp only; omega, by simp only; omega, trivial⟩
    · exact trivial
theorem rise_at (n : Nat) : ∀ (l : List (Nat × Nat)) (a i : Nat) (x : Nat × Nat), riseB l a n → l[i]? = some x → x.1 ≤ x.2 ∧ x.2 ≤ n ∧ (∀ y, (i = 0 ∧ y = a ∨ ∃ z, i ≠ 0 ∧ l[i - 1]? = some z ∧ y = z.2) → y ≤ x.1)
  | x :: r, a, 0, y, h, hy => by
    simp only [List.getElem?_cons_zero, Option.some.injEq] at hy
    subst hy
    refine ⟨h.2.1, h.2.2.1, fun y hy => ?_⟩
    rcases hy with ⟨_, rfl⟩ | ⟨z, h0, _⟩
    · exact h.1
    · exact absurd rfl h0
  | x :: r, a, i + 1, y, h, hy => by
    simp only [List.getElem?_cons_succ] at hy
    obtain ⟨h1, h2, h3⟩ := rise_at n r x.2 i y h.2.2.2 hy
    refine ⟨h1, h2, fun v hv => ?_⟩
    rcases hv with ⟨h0, _⟩ | ⟨z, _, hz, rfl⟩
    · cases h0
    · cases i with
      | zero =>
        simp only [Nat.zero_add, Nat.sub_self, List.getElem?_cons_zero, Option.some.injEq] at hz
        subst hz
        exact h3 _ (.inl ⟨rfl, rfl⟩)
      | succ i =>
        refine h3 _ (.inr ⟨z, by simp, ?_, rfl⟩)
        simpa using hz
end Go.Proofs.YtcedojmhgmgcgaaGreatDoor
