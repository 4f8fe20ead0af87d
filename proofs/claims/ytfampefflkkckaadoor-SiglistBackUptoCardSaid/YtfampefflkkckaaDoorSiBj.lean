/-
  siglist: items and in, in plain words (made by genSi2.py).
-/
import Derived.Test.YtfampefflkkckaaDoorSiBi
import Derived.Test.YtfampefflkkckaaDoorSiY
namespace Go.Proofs.YtfampefflkkckaaDoor
open Go.RowKit Go
set_option linter.unusedVariables false
set_option linter.unusedSimpArgs false
set_option maxRecDepth 100000

theorem one1_inj {a b : KI} (h : one1 a = one1 b) : a = b := by
  unfold one1 at h
  injection h with h1 h2
  injection h2 with h2
  exact Prod.ext h1 h2
theorem count_one (l : List KI) (z : KI) : (l.map one1).count (one1 z) = l.count z := by
  induction l with
  | nil => rfl
  | cons y l ih =>
    rw [List.map_cons, List.count_cons, List.count_cons, ih]
    congr 1
    by_cases h : y = z
    · subst h; simp
    · have h2 : one1 y ≠ one1 z := fun e => h (one1_inj e)
      simp [h, h2]
/-- The items of plain lists, each a list of its own, in memory. -/
def ItemsR (w : World) (A : Option Addr) (n c : Nat) (l : List Lst) : Prop := ∃ ms : List LM, ms.map LM.lst = (flatK l).map one1 ∧ ListsZ w A n ms ∧ n ≤ c ∧ c ≤ 9223372036854775807
theorem ItemsR.below {w w' : World} {A : Option Addr} {n c : Nat} {l : List Lst} (h : ItemsR w A n c l) (hb : Below w.heap.size w w') : ItemsR w' A n c l := by
  obtain ⟨ms, h1, h2, h3⟩ := h
  exact ⟨ms, h1, h2.below hb, h3⟩
theorem ItemsR.len {w : World} {A : Option Addr} {n c : Nat} {l : List Lst} (h : ItemsR w A n c l) : (flatK l).length = n := by
  obtain ⟨ms, h1, h2, h3⟩ := h
  have := congrArg List.length h1
  rw [List.length_map, List.length_map] at this
  rw [← this]; exact h2.len
theorem ones {l : List KI} {ms : List LM} (h : ms.map LM.lst = l.map one1) {w : World} (hz : ∀ z ∈ ms, ∃ zs, LmR w z zs) : ∀ z ∈ ms, z.n = 1 := fun z hz1 => by
  obtain ⟨zs, h1⟩ := hz z hz1
  have h2 : z.lst ∈ l.map one1 := by rw [← h]; exact List.mem_map_of_mem hz1
  obtain ⟨y, _, hy⟩ := List.mem_map.1 h2
  rw [← lm_n h1, show z.is = z.lst.2 from rfl, ← hy]; rfl
theorem items_r {w W : World} {A : Option Addr} {n c : Nat} {l : List Lst} (hL : ListsR w A n c l) (hl : ∀ x ∈ l, x.2.length ≤ 2000000) (hn : n ≤ 100000) (hb : Below w.heap.size w W) :
    Calls Tryd.prog 23 #[.slice A n c] W fun e w' => ∃ (A' : Option Addr) (n' c' : Nat), e = .returned (.slice A' n' c') ∧ ItemsR w' A' n' c' l ∧ Below W.heap.size W w' := by
  obtain ⟨ls, rfl, h2, h3, h4⟩ := hL
  refine (items_any A n c ls W (h2.below hb) h3 h4 hn (lim_mB h2 hl)).mono fun e w' h => ?_
  obtain ⟨A', n', c', rfl, ⟨ms, h5, h6, h7⟩, h8⟩ := h
  have hcap := h6.cap
  refine ⟨A', n', c', rfl, ⟨ms, h5, ⟨?_, h6.reads, fun z hz => (h7 z hz).imp fun _ h9 => h9.below h8⟩, hcap.1, by have := hcap.2; unfold maxLen at this; omega⟩, h8⟩
  have h9 := h6.len
  rw [flat_len LM.cells 2 ms (fun z _ => rfl)] at h9
  omega
theorem in_r {w W : World} {A : Option Addr} {n c : Nat} {l : List Lst} (hA : ItemsR w A n c l) (hn : n ≤ 1000000000000) (x : LM) (z : KI) (hx : ∃ zs, LmR w x zs) (hxz : x.lst = one1 z) (hb : Below w.heap.size w W) :
    Calls Tryd.prog 24 #[.slice A n c, .agg #[.int .u8 (x.k.toNat : Int), .slice x.a x.n x.c]] W fun e w' => e = .returned (.int .i64 (((flatK l).count z : Nat) : Int)) ∧ Below W.heap.size W w' := by
  obtain ⟨ms, h1, h2, h3, h4⟩ := hA
  have h := in_any A n c ms x W (h2.below hb) h3 h4 hn (fun q hq => by rw [ones h1 h2.each q hq]; decide) (hx.imp fun _ h9 => h9.below hb)
  rw [h1, hxz, count_one] at h
  exact h
/-- One of the items. -/
theorem ItemsR.at_ {w : World} {A : Option Addr} {n c : Nat} {l : List Lst} (h : ItemsR w A n c l) {i : Nat} (hi : i < n) : ∃ x z b off, z ∈ flatK l ∧ x.lst = one1 z ∧ A = some ⟨b, off, none⟩ ∧ b < w.heap.size ∧ w.rangeAt b (off + i * 2) x.cells ∧ ∃ zs, LmR w x zs := by
  obtain ⟨ms, h1, h2, h3⟩ := h
  obtain ⟨x, b, off, hg, hA, hb, hr, hx⟩ := h2.at_ hi
  have h4 : x.lst ∈ (flatK l).map one1 := by rw [← h1]; exact List.mem_map_of_mem (List.mem_of_getElem? hg)
  obtain ⟨z, hz, he⟩ := List.mem_map.1 h4
  exact ⟨x, z, b, off, hz, he.symm, hA, hb, hr, hx⟩
/-! ### What is known of what is written, read and merged -/
theorem right_of_all {l : List Lst} (h : l.all rightL = true) (ho : ∀ x ∈ l, Own16 x) : Right l := fun x hx => ⟨List.all_eq_true.1 h x hx, ho x hx⟩
theorem rd_write {l : List Lst} (h : Right l) (hb : (allB l).length ≤ 65536) : rErr (allB l) = 0 ∧ rLst (allB l) = l := by
  have h1 := read_write l h (by omega)
  unfold rErr rLst
  rw [if_neg (by omega), if_neg (by omega), h1]
  exact ⟨rfl, rfl⟩
theorem wErr_ok {l : List Lst} (h : wErr l = 0) : l.all rightL = true ∧ (allB l).length ≤ 65536 ∧ wBytes l = allB l := by
  have hb : wBytes l = allB l := by unfold wBytes; rw [if_pos h]
  unfold wErr at h
  split at h
  · rename_i ha
    split at h
    · cases h
    · exact ⟨ha, by omega, hb⟩
  · cases h
theorem merge_self_ok {l : List Lst} (h : Right l) (hb : (allB l).length ≤ 65536) : mErr (allB l) (allB l) = 0 ∧ mBytes (allB l) (allB l) = allB l := by
  have h1 := rd_write h hb
  have h2 : mLst (allB l) (allB l) = l := by unfold mLst; rw [h1.2, merged_self]
  have h3 := mErr_4 h1.1 h1.1 (by rw [h2]; omega)
  rw [h2] at h3
  exact h3
theorem merge_both_ok {l m : List Lst} (hl : Right l) (hm : Right m) (hb : (allB l).length + (allB m).length ≤ 65536) : mErr (allB l) (allB m) = 0 ∧ mBytes (allB l) (allB m) = allB (merged l m) ∧ (allB (merged l m)).length ≤ 65536 ∧ ∃ tl, allB (merged l m) = allB l ++ tl := by
  have h1 := rd_write hl (by omega)
  have h2 := rd_write hm (by omega)
  have h3 : mLst (allB l) (allB m) = merged l m := by unfold mLst; rw [h1.2, h2.2]
  have h4 : allB (merged l m) = allB l ++ allB (mergeQ m (flatK l)) := by unfold merged; rw [allB_append]
  have h5 : (allB (merged l m)).length ≤ 65536 := by rw [h4, List.length_append]; have := merge_len m (flatK l); omega
  have h6 := mErr_4 h1.1 h2.1 (by rw [h3]; omega)
  rw [h3] at h6
  exact ⟨h6.1, h6.2, h5, _, h4⟩
theorem rd_err0 {xb : List UInt8} (h : rErr xb = 0) : (rLst xb).all rightL = true ∧ allB (rLst xb) = xb ∧ ¬ 65536 < (allB (rLst xb)).length := by
  have h1 := rd_ok h
  exact ⟨List.all_eq_true.2 fun x hx => (h1.1 x hx).1, h1.2.1, by rw [h1.2.1]; have := h1.2.2; omega⟩
end Go.Proofs.YtfampefflkkckaaDoor
