/-
  Apart: slices that own blocks of their own are told to be apart, and nothing but these blocks is written.
-/
import Derived.Test.YtcedojmhgmgcgaaGreatDoorApp1
import Derived.Test.YtcedojmhgmgcgaaGreatDoorRef
import Derived.RegionTactic
import Derived.BigRegion
import Derived.ChangeAlike
import Derived.Deep.QuietTactic
import Derived.BigQuiet
import Derived.WalkSmall
namespace Go.Proofs.YtcedojmhgmgcgaaGreatDoor
open Go.RowKit Go
set_option linter.unusedVariables false
set_option maxRecDepth 100000
section
variable {w w' : World} {base b' : Nat} {A A' : Option Addr} {n n' c c' : Nat} {xs ys : List UInt8}
theorem own_same (h1 : OwnB w base A n c xs) (h2 : OwnB w b' A' n' c' ys) (he : blk A = blk A') (hne : blk A ≠ none) : A = A' ∧ c = c' := by
  rcases h1.2 with ⟨hv, _⟩ | ⟨g, cap, cur, hv, _, hh, _, _, hcs, _⟩
  · injection hv with e1; subst e1; exact absurd rfl hne
  · injection hv with e1 _ e3
    subst e1; subst e3
    rcases h2.2 with ⟨hv', _⟩ | ⟨g', cap', cur', hv', _, hh', _, _, hcs', _⟩
    · injection hv' with e1; subst e1; exact absurd he.symm (by simp [blk])
    · injection hv' with e1 _ e3
      subst e1; subst e3
      have hg : g = g' := by simpa [blk] using he
      subst hg
      rw [hh] at hh'
      injection hh' with hh'
      injection hh' with hc
      subst hc
      exact ⟨rfl, by simpa using hcs.symm.trans hcs'⟩
theorem OwnB.cutTo (h : OwnB w base A n c xs) (k : Nat) (hk : k ≤ n) : OwnB w base A k c (xs.take k) := by
  have hl := h.len
  rcases h.2 with ⟨hv, hn⟩ | ⟨g, cap, cur, hv, hb, hh, hle, hm, hcs, htk⟩
  · subst hn
    obtain rfl : k = 0 := by omega
    injection hv with e1 e2 e3
    subst e1; subst e3
    exact OwnB.nil _ _
  · injection hv with e1 _ e3
    subst e1; subst e3
    refine ⟨by rw [List.length_map, List.length_take, hl]; omega, .inr ⟨g, c, cur, rfl, hb, hh, by omega, hm, hcs, ?_⟩⟩
    simp only [Nat.mul_one] at htk ⊢
    rw [List.map_take, ← htk, List.take_take, Nat.min_eq_left hk]
theorem OwnB.blk_some (h : OwnB w base A n c xs) (hn : 0 < n) : ∃ g, A = some ⟨g, 0, none⟩ ∧ blk A = some g ∧ base ≤ g ∧ g < w.heap.size := by
  obtain ⟨g, rfl, h1, h2⟩ := h.shape (by have := h.cap; omega)
  exact ⟨g, rfl, rfl, h1, h2⟩
theorem keepB {V : Option Addr} {m cv : Nat} {vs : List Value} (h : OwnB w base A n c xs) (hV : OwnS w b' V m cv vs) (hg : w.grownBy w' (blk V)) : OwnB w' base A n c xs := by
  refine h.kept hg ?_
  cases hA : blk A with
  | none => exact .inl rfl
  | some g =>
    right
    intro e
    rcases own_ne hV h (by decide) with h1 | h1
    · rw [h1] at e; cases e
    · exact h1 (by rw [hA]; exact e.symm)
end
/-- Memory between two block numbers stands. -/
def Mid (lo hi : Nat) (w w' : World) : Prop := ∀ k, lo ≤ k → k < hi → w'.heap[k]? = w.heap[k]?
section
variable {lo hi : Nat} {a b c : World}
theorem Mid.refl : Mid lo hi a a := fun _ _ _ => rfl
theorem Mid.trans (h : Mid lo hi a b) (k : Mid lo hi b c) : Mid lo hi a c := fun i h1 h2 => (k i h1 h2).trans (h i h1 h2)
theorem Mid.of_below (h : Below hi a b) : Mid lo hi a b := fun k _ h2 => h.block k h2
theorem Mid.of_grown {row : Option Nat} (h : a.grownBy b row) (hh : hi ≤ a.heap.size) (hr : ∀ k, row = some k → k < lo ∨ hi ≤ k) : Mid lo hi a b := fun k h1 h2 => h.block k (by omega) (fun e => by
  rcases hr k e.symm with h3 | h3 <;> omega)
theorem Mid.own (h : Mid lo hi a b) {A : Option Addr} {n cc : Nat} {xs : List UInt8} (ho : OwnB a lo A n cc xs) (hh : a.heap.size = hi) : OwnB b lo A n cc xs := by
  obtain ⟨h1, h2⟩ := ho
  refine ⟨h1, ?_⟩
  rcases h2 with hn | ⟨g, cap, cur, hv, hb, hc, rest⟩
  · exact .inl hn
  · refine .inr ⟨g, cap, cur, hv, hb, ?_, rest⟩
    rw [h g hb (by have := (Array.getElem?_eq_some_iff.1 hc).1; omega)]
    exact hc
theorem Mid.ownS (h : Mid lo hi a b) {V : Option Addr} {m cc : Nat} {vs : List Value} (ho : OwnS a lo V m cc vs) (hh : a.heap.size = hi) : OwnS b lo V m cc vs := by
  obtain ⟨h1, h2⟩ := ho
  refine ⟨h1, ?_⟩
  rcases h2 with hn | ⟨g, cap, cur, hv, hb, hc, rest⟩
  · exact .inl hn
  · refine .inr ⟨g, cap, cur, hv, hb, ?_, rest⟩
    rw [h g hb (by have := (Array.getElem?_eq_some_iff.1 hc).1; omega)]
    exact hc
end
theorem take_snoc_at {α : Type} (l : List α) (x : α) (r : Nat) : (l ++ [x])[r]? = if r < l.length then l[r]? else if r = l.length then some x else none := by
  by_cases h : r < l.length
  · rw [List.getElem?_append_left h, if_pos h]
  · rw [List.getElem?_append_right (by omega), if_neg h]
    by_cases h2 : r = l.length
    · subst h2; simp
    · rw [if_neg h2, List.getElem?_eq_none (by simp; omega)]
/-- The mark of row i. -/
def mkr (i : Nat) : UInt8 := UInt8.ofNat (i + 1)
theorem mkr_num (i : Nat) : IntKind.u8.wrap ((i : Int) + 1) = ((mkr i).toNat : Int) := by
  unfold mkr
  rw [IntKind.wrap_u8', UInt8.toNat_ofNat']
  omega
section
variable (V : Option Addr) (m c : Nat) (vs : List Value) (A : Nat → Option Addr) (n cc : Nat → Nat) (bss : Nat → List UInt8) (base : Nat) (w : World)
/-- What Apart is handed. -/
structure Fam (w : World) : Prop where
  row : OwnS w base V m c vs
  at_ : ∀ r, r < m → vs[r]? = some (.slice (A r) (n r) (cc r))
  own : ∀ r, r < m → OwnB w base (A r) (n r) (cc r) (bss r)
  far : ∀ r s, r < m → s < m → r ≠ s → blk (A r) = none ∨ blk (A r) ≠ blk (A s)
  lim : ∀ r, r < m → n r ≤ 1000000
/-- The first i copies. -/
def Copies (lo : Nat) (w : World) (i : Nat) (ws : List Value) : Prop := ∀ r, r < i → ∃ C cr, ws[r]? = some (.slice C (n r) cr) ∧ OwnB w lo C (n r) cr (bss r)
end
section
variable {V : Option Addr} {m c : Nat} {vs : List Value} {A : Nat → Option Addr} {n cc : Nat → Nat} {bss : Nat → List UInt8} {base : Nat} {w w' : World}
theorem Fam.below (h : Fam V m c vs A n cc bss base w) {B : Nat} (hb : Below B w w') (hB : w.heap.size ≤ B) : Fam V m c vs A n cc bss base w' :=
  ⟨h.row.below hb hB, h.at_, fun r hr => (h.own r hr).below hb hB, h.far, h.lim⟩
end
/-- What stands of the long ones: the first i. -/
structure Longs (V : Option Addr) (m c : Nat) (vs : List Value) (A : Nat → Option Addr) (n cc : Nat → Nat) (bss : Nat → List UInt8) (base hi : Nat) (w : World) (i : Nat) (ms : List Value) (G : Nat → Option Addr × Nat) : Prop where
  at_ : ∀ r, r < i → ms[r]? = some (.slice (G r).1 (n r + 40) (G r).2)
  own : ∀ r, r < i → OwnB w base (G r).1 (n r + 40) (G r).2 (bss r ++ List.replicate 40 (mkr r))
  or_ : ∀ r, r < i → ((G r).1 = A r ∧ (G r).2 = cc r) ∨ (∃ k, blk (G r).1 = some k ∧ hi ≤ k)
  far : ∀ r s, r < i → s < i → r ≠ s → blk (G r).1 ≠ blk (G s).1
/-- One that is gone on with. -/
structure Going (A : Option Addr) (cA : Nat) (base hs : Nat) (w : World) (n k : Nat) (bs : List UInt8) (x : UInt8) (g : Option Addr) (cg : Nat) : Prop where
  own : OwnB w base g (n + k) cg (bs ++ List.replicate k x)
  old : OwnB w base A n cA bs
  or_ : (g = A ∧ cg = cA) ∨ (∃ j, blk g = some j ∧ hs ≤ j)
theorem Going.step {A g : Option Addr} {cA base hs n k cg cg' : Nat} {w w1 w2 : World} {bs : List UInt8} {x : UInt8} {g' : Option Addr} (hG : Going A cA base hs w n k bs x g cg)
    (h1 : OwnB w2 base g' (n + k + 1) cg' (bs ++ List.replicate k x ++ [x])) (h2 : OwnB w2 base g (n + k) cg (bs ++ List.replicate k x)) (hg : w1.grownBy w2 (blk g)) (ho : OwnB w1 base A n cA bs) (H : Nat) (hb : blk g' = blk g ∨ blk g' = some H) (hw : hs ≤ H) (hlt : ∀ k, blk A = some k → k < hs) :
    Going A cA base hs w2 n (k + 1) bs x g' cg' := by
  have hsome : blk g' ≠ none := by
    obtain ⟨j, _, h3, _⟩ := h1.blk_some (by omega)
    rw [h3]; simp
  refine ⟨by rw [List.replicate_succ', ← List.append_assoc, ← Nat.add_assoc]; exact h1, ?_, ?_⟩
  · rcases hG.or_ with ⟨rfl, rfl⟩ | ⟨j, hj, hj2⟩
    · have := h2.cutTo n (by omega)
      rwa [← hG.old.len, List.take_left, hG.old.len] at this
    · refine ho.kept hg ?_
      right
      intro e
      rw [hj] at e
      have := hlt j e
      omega
  · rcases hb with hb | hb
    · obtain ⟨e1, e2⟩ := own_same h1 h2 hb hsome
      subst e1; subst e2
      exact hG.or_
    · exact .inr ⟨_, hb, hw⟩
theorem below_drewN {B : Nat} {a b : World} (h : Below B a b) (k : Nat) : Below B a (b.drewN k) := ⟨h.os, h.tape, h.output, h.size, h.block⟩
theorem eq_same (A1 A2 : Option Addr) (n1 n2 c1 c2 : Nat) (xs : List UInt8) (w : World) (h1 : RB w A1 n1 xs) (h2 : RB w A2 n2 xs) :
    Calls Tryz.prog 25 #[.slice A1 n1 c1, .slice A2 n2 c2] w fun e w' => e = .returned (.bool true) ∧ w' = w :=
  (eq_any A1 A2 n1 n2 c1 c2 xs xs w h1 h2).mono fun _ _ ⟨a, b⟩ => ⟨by rw [a]; simp, b.symm⟩
def upd (G : Nat → Option Addr × Nat) (i : Nat) (x : Option Addr × Nat) : Nat → Option Addr × Nat := fun r => if r = i then x else G r
theorem upd_same (G : Nat → Option Addr × Nat) (i : Nat) (x : Option Addr × Nat) : upd G i x i = x := by simp [upd]
theorem upd_other (G : Nat → Option Addr × Nat) (i r : Nat) (x : Option Addr × Nat) (h : r ≠ i) : upd G i x r = G r := by simp [upd, h]

end Go.Proofs.YtcedojmhgmgcgaaGreatDoor
