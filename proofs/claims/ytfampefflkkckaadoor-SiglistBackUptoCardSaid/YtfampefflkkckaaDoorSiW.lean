/-
  siglist: contracts over plain lists (made by genSi2.py).
-/
import Derived.Test.YtfampefflkkckaaDoorSiU
import Derived.MakeChecks
namespace Go.Proofs.YtfampefflkkckaaDoor
open Go.RowKit Go
set_option linter.unusedVariables false
set_option linter.unusedSimpArgs false
set_option maxRecDepth 100000
theorem of_laid {W : World} (h : laidMetH Tryd.prog Rows.siglistHasRow.laid W) : Sizes W := by
  rw [MakeChecks.laidMetH_plain _ _ _ (by kernel_rfl)] at h
  have ht : Lib.TabIs Tryd.prog W "lintel/octet.sizes" .i64 sizesZ :=
    Lib.tabIs_of_head (rest := []) g_sizes (show (Tryd.prog.globals[0]?).map (·.type) = some 86 by kernel_rfl) Tryd.underlying86 Tryd.underlying3 (by kernel_rfl) (by kernel_rfl) h
  exact ⟨by have := World.var?_cell g_sizes ht 0; have := World.block_lt_of_cell? W _ (this.trans (show _ = some (.int .i64 1) from rfl)); exact this, ht⟩

/-- Lists in memory, as plain data. -/
def ListsR (w : World) (A : Option Addr) (n c : Nat) (l : List Lst) : Prop := ∃ ls : List LM, ls.map LM.lst = l ∧ ListsZ w A n ls ∧ n ≤ c ∧ c ≤ 9223372036854775807
theorem ListsR.below {w w' : World} {A : Option Addr} {n c : Nat} {l : List Lst} (h : ListsR w A n c l) (hb : Below w.heap.size w w') : ListsR w' A n c l := by
  obtain ⟨ls, h1, h2, h3⟩ := h
  exact ⟨ls, h1, h2.below hb, h3⟩
theorem ListsR.len {w : World} {A : Option Addr} {n c : Nat} {l : List Lst} (h : ListsR w A n c l) : l.length = n := by
  obtain ⟨ls, h1, h2, h3⟩ := h
  rw [← h1, List.length_map]; exact h2.len
theorem ListsOwn.r {w : World} {base : Nat} {A : Option Addr} {n c : Nat} {l : List Lst} (h : ListsOwn w base A n c l) : ListsR w A n c l := by
  obtain ⟨ls, h1, h2, h3⟩ := h
  exact ⟨ls, h1, own_lists h2 h3, h2.cap.1, by have := h2.cap.2; unfold maxLen at this; omega⟩
theorem ListsR.nil (w : World) (A : Option Addr) (c : Nat) (hc : c ≤ 9223372036854775807) : ListsR w A 0 c [] := ⟨[], rfl, ListsZ.nil w A, Nat.zero_le _, hc⟩
theorem IsLs.r {w : World} {A : Option Addr} {n c N1 N2 N3 : Nat} {ls : List LM} (h : IsLs w A n c N1 N2 N3 ls) : ListsR w A n c (ls.map LM.lst) := ⟨ls, rfl, h.z, h.le, h.max⟩
/-- Bounds on plain lists. -/
structure Lim (l : List Lst) (m d : Nat) : Prop where
  m : ∀ x ∈ l, x.2.length ≤ m
  d : ∀ x ∈ l, ∀ y ∈ x.2, y.2.length ≤ d
theorem Lim.more {l : List Lst} {m d m' d' : Nat} (h : Lim l m d) (h1 : m ≤ m') (h2 : d ≤ d') : Lim l m' d' := ⟨fun x hx => Nat.le_trans (h.m x hx) h1, fun x hx y hy => Nat.le_trans (h.d x hx y hy) h2⟩
theorem lm_n {w : World} {z : LM} {zs : List IM} (h : LmR w z zs) : z.is.length = z.n := by rw [← h.e, List.length_map]; exact h.i.len
theorem lim_n {w : World} {A : Option Addr} {n : Nat} {ls : List LM} (hz : ListsZ w A n ls) {m d : Nat} (h : Lim (ls.map LM.lst) m d) : ∀ z ∈ ls, z.n ≤ m := fun z hz1 => by
  obtain ⟨zs, h1⟩ := hz.each z hz1
  rw [← lm_n h1]
  exact h.m z.lst (List.mem_map_of_mem hz1)
theorem lim_d {ls : List LM} {m d : Nat} (h : Lim (ls.map LM.lst) m d) : ∀ z ∈ ls, ∀ y ∈ z.is, y.2.length ≤ d := fun z hz1 y hy => h.d z.lst (List.mem_map_of_mem hz1) y hy
theorem IsLs.lim {w : World} {A : Option Addr} {n c N1 N2 N3 : Nat} {ls : List LM} (h : IsLs w A n c N1 N2 N3 ls) : Lim (ls.map LM.lst) (N2 / 40) N1 := ⟨fun x hx => by
  obtain ⟨z, hz, rfl⟩ := List.mem_map.1 hx
  obtain ⟨zs, h1⟩ := h.z.each z hz
  have h2 := h.items z hz
  show z.is.length ≤ _
  rw [lm_n h1]; omega, fun x hx y hy => by
  obtain ⟨z, hz, rfl⟩ := List.mem_map.1 hx
  exact h.data z hz y hy⟩
section
variable {w W : World} {A : Option Addr} {n c : Nat} {l : List Lst}
theorem has_r (hL : ListsR w A n c l) (hl : Lim l 4000000000000 1000000000) (hn : n ≤ 100000) (kd : UInt8) (D : Option Addr) (dn dc : Nat) (da : List UInt8) (hb : Below w.heap.size w W) (hD : RB W D dn da) :
    Calls Tryd.prog 14 #[.slice A n c, .int .u8 (kd.toNat : Int), .slice D dn dc] W fun e w' => e = .returned (.bool (hasQ l kd da)) ∧ Below W.heap.size W w' := by
  obtain ⟨ls, rfl, h2, h3, h4⟩ := hL
  exact has_any A n c ls kd D dn dc da W (h2.below hb) h3 h4 hn (lim_n h2 hl) hD (lim_d hl)
theorem write_r (hL : ListsR w A n c l) (hl : Lim l 2000000 1000000000) (hn : n ≤ 100000) (hb : Below w.heap.size w W) (hT : Sizes W) :
    Calls Tryd.prog 19 #[.slice A n c] W (WritePost W l) := by
  obtain ⟨ls, rfl, h2, h3, h4⟩ := hL
  exact lwrite_any A n c ls W (h2.below hb) h3 h4 hn (lim_n h2 hl) hT
theorem twins_r (hL : ListsR w A n c l) (hl : Lim l 3518437208880 1000000000) (hn : n ≤ 1000000) (hb : Below w.heap.size w W) :
    Calls Tryd.prog 18 #[.slice A n c] W (TwinsPost W n l) := by
  obtain ⟨ls, rfl, h2, h3, h4⟩ := hL
  exact twins_any A n c ls W (h2.below hb) h3 h4 hn (lim_n h2 hl) (lim_d hl)
theorem same_r {B : Option Addr} {m d : Nat} {k : List Lst} {v : World} (hL : ListsR w A n c l) (hM : ListsR v B m d k) (hl : ∀ x ∈ l, x.2.length ≤ 2000000) (hn : n ≤ 100000) (hb : Below w.heap.size w W) (hv : Below v.heap.size v W) :
    Calls Tryd.prog 16 #[.slice A n c, .slice B m d] W fun e w' => e = .returned (.bool (decide (l = k))) ∧ Below W.heap.size W w' := by
  obtain ⟨ls, rfl, h2, h3, h4⟩ := hL
  obtain ⟨ms, rfl, k2, k3, k4⟩ := hM
  exact samelists_any A n c ls B m d ms W (h2.below hb) (k2.below hv) h3 h4 k3 k4 hn (fun z hz => by
    obtain ⟨zs, h1⟩ := h2.each z hz
    rw [← lm_n h1]
    exact hl z.lst (List.mem_map_of_mem hz))
/-- What vast answers, over plain lists. -/
def VastR (w : World) (n : Nat) (l : List Lst) (e : Ending) (w' : World) : Prop :=
  ∃ v : Bool, e = .returned (.bool v) ∧ (v = false → n ≤ 100 ∧ ∀ x ∈ l, ∀ y ∈ x.2, y.2.length ≤ 16384) ∧ Below w.heap.size w w'
theorem vast_r (hL : ListsR w A n c l) (hl : ∀ x ∈ l, x.2.length ≤ 4000000000000) (hb : Below w.heap.size w W) :
    Calls Tryd.prog 17 #[.slice A n c] W (VastR W n l) := by
  obtain ⟨ls, rfl, h2, h3, h4⟩ := hL
  refine (vast_any A n c ls W (h2.below hb) h3 h4 (fun z hz => by
    obtain ⟨zs, h1⟩ := h2.each z hz
    rw [← lm_n h1]
    exact hl z.lst (List.mem_map_of_mem hz))).mono fun e w' h => ?_
  obtain ⟨v, h5, h6, h7⟩ := h
  refine ⟨v, h5, fun hv => ⟨(h6 hv).1, fun x hx y hy => ?_⟩, h7⟩
  obtain ⟨z, hz, rfl⟩ := List.mem_map.1 hx
  exact (h6 hv).2 z hz y hy
end
end Go.Proofs.YtfampefflkkckaaDoor
