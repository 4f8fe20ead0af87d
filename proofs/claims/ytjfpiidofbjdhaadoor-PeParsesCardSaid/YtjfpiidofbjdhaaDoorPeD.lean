/-
  pe: the library's sort at sections: the shelf's contract laid at this program, and what it comes to over a row that the call owns; AppendSeq, Collect, SortedFunc.
-/
import Derived.Shelf.SlSortCmp.NoneTotal
import Derived.Test.YtjfpiidofbjdhaaDoorPeC
namespace Go.Proofs.YtjfpiidofbjdhaaDoor
open Go.Shelf Go.RowKit Go Go.Lib
set_option linter.unusedVariables false
set_option maxRecDepth 100000
attribute [local go_sem] Oper.semAt_some
def sortSec_ren : Go.Shelf.Ren := ⟨fun | 6 => 55 | 15 => 64 | 14 => 63 | 28 => 74 | 29 => 75 | 20 => 66 | 21 => 67 | 22 => 68 | 23 => 69 | 24 => 70 | 25 => 71 | 26 => 72 | 27 => 73 | 46 => 76 | 47 => 77 | 48 => 78 | 49 => 79 | 50 => 80 | 57 => 81 | n => n, fun | 22 => 25 | 24 => 43 | 25 => 91 | 3 => 3 | 39 => 108 | 0 => 0 | 53 => 24 | 55 => 47 | 4 => 4 | 46 => 111 | 45 => 110 | 50 => 67 | 5 => 5 | 9 => 9 | 66 => 119 | 70 => 123 | 76 => 125 | 77 => 126 | n => n, fun | n => n⟩
theorem sortSec : Go.Proofs.SlLaysF0.n6 Tryd.prog sortSec_ren := {
  mixed := by kernel_rfl
  f6 := ⟨Tryd.f55.name, by decide, Tryd.func55.trans (congrArg some (by kernel_rfl))⟩
  f14 := ⟨Tryd.f63.name, by decide, Tryd.func63.trans (congrArg some (by kernel_rfl))⟩
  f15 := Tryd.func64.trans (congrArg some (by kernel_rfl))
  f20 := ⟨Tryd.f66.name, by decide, Tryd.func66.trans (congrArg some (by kernel_rfl))⟩
  f21 := ⟨Tryd.f67.name, by decide, Tryd.func67.trans (congrArg some (by kernel_rfl))⟩
  f22 := ⟨Tryd.f68.name, by decide, Tryd.func68.trans (congrArg some (by kernel_rfl))⟩
  f23 := ⟨Tryd.f69.name, by decide, Tryd.func69.trans (congrArg some (by kernel_rfl))⟩
  f24 := ⟨Tryd.f70.name, by decide, Tryd.func70.trans (congrArg some (by kernel_rfl))⟩
  f25 := ⟨Tryd.f71.name, by decide, Tryd.func71.trans (congrArg some (by kernel_rfl))⟩
  f26 := ⟨Tryd.f72.name, by decide, Tryd.func72.trans (congrArg some (by kernel_rfl))⟩
  f27 := ⟨Tryd.f73.name, by decide, Tryd.func73.trans (congrArg some (by kernel_rfl))⟩
  f28 := Tryd.func74.trans (congrArg some (by kernel_rfl))
  f29 := Tryd.func75.trans (congrArg some (by kernel_rfl))
  f46 := ⟨Tryd.f76.name, by decide, Tryd.func76.trans (congrArg some (by kernel_rfl))⟩
  f47 := Tryd.func77.trans (congrArg some (by kernel_rfl))
  f48 := Tryd.func78.trans (congrArg some (by kernel_rfl))
  f49 := ⟨Tryd.f79.name, by decide, Tryd.func79.trans (congrArg some (by kernel_rfl))⟩
  f50 := ⟨Tryd.f80.name, by decide, Tryd.func80.trans (congrArg some (by kernel_rfl))⟩
  f57 := ⟨Tryd.f81.name, by decide, Tryd.func81.trans (congrArg some (by kernel_rfl))⟩
  t0 := Tryd.underlying0
  a0 := Tryd.isAgg0
  z0 := Tryd.sizeOf0
  v0 := Tryd.zeroValue0
  t3 := Tryd.underlying3
  a3 := Tryd.isAgg3
  z3 := Tryd.sizeOf3
  v3 := Tryd.zeroValue3
  t4 := Tryd.underlying4
  a4 := Tryd.isAgg4
  z4 := Tryd.sizeOf4
  v4 := Tryd.zeroValue4
  t5 := Tryd.underlying5
  a5 := Tryd.isAgg5
  z5 := Tryd.sizeOf5
  v5 := Tryd.zeroValue5
  t9 := Tryd.underlying9
  a9 := Tryd.isAgg9
  z9 := Tryd.sizeOf9
  v9 := Tryd.zeroValue9
  t22 := Tryd.underlying25
  a22 := Tryd.isAgg25
  z22 := Tryd.sizeOf25
  v22 := Tryd.zeroValue25
  t25 := Tryd.underlying91
  a25 := Tryd.isAgg91
  z25 := Tryd.sizeOf91
  v25 := Tryd.zeroValue91
  t39 := Tryd.underlying108
  a39 := Tryd.isAgg108
  z39 := Tryd.sizeOf108
  v39 := Tryd.zeroValue108
  t45 := Tryd.underlying110
  a45 := Tryd.isAgg110
  z45 := Tryd.sizeOf110
  v45 := Tryd.zeroValue110
  t46 := Tryd.underlying111
  a46 := Tryd.isAgg111
  z46 := Tryd.sizeOf111
  v46 := Tryd.zeroValue111
  t50 := Tryd.underlying67
  a50 := Tryd.isAgg67
  z50 := Tryd.sizeOf67
  v50 := Tryd.zeroValue67
  t53 := Tryd.underlying24
  a53 := Tryd.isAgg24
  z53 := Tryd.sizeOf24
  v53 := Tryd.zeroValue24
  t55 := Tryd.underlying47
  a55 := Tryd.isAgg47
  z55 := Tryd.sizeOf47
  v55 := Tryd.zeroValue47
  t66 := Tryd.underlying119
  a66 := Tryd.isAgg119
  z66 := Tryd.sizeOf119
  v66 := Tryd.zeroValue119
  t70 := Tryd.underlying123
  a70 := Tryd.isAgg123
  z70 := Tryd.sizeOf123
  v70 := Tryd.zeroValue123
  t76 := Tryd.underlying125
  a76 := Tryd.isAgg125
  z76 := Tryd.sizeOf125
  v76 := Tryd.zeroValue125
  t77 := Tryd.underlying126
  a77 := Tryd.isAgg126
  z77 := Tryd.sizeOf126
  v77 := Tryd.zeroValue126 }
/-! ### Rows of cells, between the two vocabularies -/
theorem holds_of_cells {w : World} {g : Nat} {cur F : Array Value} {e : TypeId} (hb : w.heap[g]? = some (.cells cur e (0, 0))) (ht : cur.toList.take F.size = F.toList) : Go.Sort.Holds id w g 0 F := by
  intro j hj
  refine ⟨?_, by simp [World.frozen?, hb]⟩
  have h1 : (cur.toList.take F.size)[j]? = F.toList[j]? := by rw [ht]
  rw [List.getElem?_take_of_lt hj] at h1
  simp only [World.cell?, hb, Nat.zero_add]
  simp only [Option.isSome_none, Bool.false_eq_true, if_false]
  rw [← Array.getElem?_toList, h1]
  simp [hj]
theorem heap_sortedV {w : World} {g n : Nat} {os : Array Obj} {cur : Array Value} {e : TypeId} {fr : Nat × Nat} (F : Array Value) (hb : w.heap[g]? = some (.cells cur e fr)) :
    (Go.Sort.grow (Go.Sort.putRow id (Go.Sort.ahead w n) g 0 F) os).heap[g]? = some (.cells (Go.Sort.putCells id 0 F cur) e fr) := by
  have hg : g < w.heap.size := (Array.getElem?_eq_some_iff.1 hb).1
  rw [Go.Sort.heap_grow_old _ _ (by simpa using hg)]
  simp [Go.Sort.putRow, Go.Sort.mapBlock, Go.Sort.ahead, Array.getElem?_modify, hb, Go.Sort.onCells]
theorem grownBy_sortedV {w : World} {g n : Nat} {os : Array Obj} (F : Array Value) : w.grownBy (Go.Sort.grow (Go.Sort.putRow id (Go.Sort.ahead w n) g 0 F) os) (some g) := by
  refine ⟨rfl, rfl, rfl, by simp, fun k hk hne => ?_⟩
  rw [Go.Sort.heap_grow_old _ _ (by simpa using hk)]
  have : g ≠ k := fun e => hne (by rw [e])
  simp [Go.Sort.putRow, Go.Sort.mapBlock, Go.Sort.ahead, Array.getElem?_modify, this]
theorem take_putCellsV (cur F : Array Value) (h : F.size ≤ cur.size) : (Go.Sort.putCells id 0 F cur).toList.take F.size = F.toList := by
  apply List.ext_getElem?
  intro j
  by_cases hj : j < F.size
  · rw [List.getElem?_take_of_lt hj, Array.getElem?_toList]
    simp [Go.Sort.putCells, hj, show j < cur.size by omega]
  · rw [List.getElem?_take_eq_none (by omega), List.getElem?_eq_none (by simp; omega)]
theorem flat_sec (L : List (Nat × Nat)) : (Go.Sort.flatK secCells 2 L.toArray).toList = L.flatMap secCells := by
  apply List.ext_getElem?
  intro t
  by_cases ht : t < L.length * 2
  · have h1 : (Go.Sort.flatK secCells 2 L.toArray)[t]! = (secCells L.toArray[t / 2]!)[t % 2]! := Go.Sort.get_flatK _ _ _ _ (by simpa using ht)
    obtain ⟨x, hx⟩ : ∃ x, L[t / 2]? = some x := ⟨_, List.getElem?_eq_getElem (by omega)⟩
    obtain ⟨s0, s1⟩ := sec_at L (t / 2) x hx
    have hx2 : L.toArray[t / 2]! = x := by
      rw [getElem!_def]
      simp [hx]
    rw [hx2] at h1
    have hsz : t < (Go.Sort.flatK secCells 2 L.toArray).size := by simpa using ht
    rw [Array.getElem?_toList, Array.getElem?_eq_getElem hsz, ← getElem!_pos _ t hsz, h1]
    have h2 : t = t / 2 * 2 ∨ t = t / 2 * 2 + 1 := by omega
    rcases h2 with h2 | h2
    · have e1 : t / 2 * 2 = t := h2.symm
      rw [e1] at s0
      rw [show t % 2 = 0 by omega, s0]; rfl
    · have e1 : t / 2 * 2 + 1 = t := h2.symm
      rw [e1] at s1
      rw [show t % 2 = 1 by omega, s1]; rfl
  · rw [List.getElem?_eq_none (by simp; omega), List.getElem?_eq_none (by rw [sec_len]; omega)]
theorem cmpN_lt (x y : Nat) : decide (cmpN x y < 0) = decide (x < y) := by
  unfold cmpN
  by_cases h1 : x < y
  · simp [h1]
  · by_cases h2 : y < x <;> simp [h1, h2]
def secCmp (x y : Nat × Nat) : Int := cmpN x.1 y.1
theorem secLt (x y : Nat × Nat) : ltOf secCmp x y = decide (x.1 < y.1) := cmpN_lt x.1 y.1
theorem secSWO : Go.Sort.SWO (ltOf secCmp) where
  irrefl x := by rw [secLt]; simp
  trans x y z h1 h2 := by rw [secLt] at *; simp at *; omega
  ntrans x y z h1 h2 := by rw [secLt] at *; simp at *; omega
set_option maxHeartbeats 1000000 in
theorem secClosure (x y : Nat × Nat) (W : World) : Calls Tryd.prog 47 #[.agg #[.int .u32 (x.1 : Nat), .int .u32 (x.2 : Nat)], .agg #[.int .u32 (y.1 : Nat), .int .u32 (y.2 : Nat)]] W fun e w' => e = .returned (.int .i64 (secCmp x y)) ∧ ∃ q os', w' = Go.Sort.grow (W.drewN q) os' := by
  have C := Lib.hid (fun W => cmpC_any x.1 y.1 W)
  unfold secCmp
  obtain ⟨x1, x2⟩ := x
  obtain ⟨y1, y2⟩ := y
  dsimp only at *
  obtain ⟨r, hr⟩ : ∃ r, cmpN x1 y1 = r := ⟨_, rfl⟩
  rw [hr] at C ⊢
  clear hr
  go_enter Tryd.func47, Tryd.ntmps47
  go_wp2_with fail
  (with_reducible refine (C.out _).mono ?_)
  rintro e w' ⟨rfl, rfl⟩
  go_wp2_with fail
  go_ret
  exact ⟨rfl, 0, _, by rw [Go.Sort.alloc_eq_grow, Go.Sort.alloc_eq_grow, Go.Sort.grow_grow]; rfl⟩
theorem secCmpLays (blk off size : Nat) (w : World) : CmpLays Tryd.prog 47 #[] secCells 2 secCmp blk off size w :=
  fun _ _ _ _ x y => secClosure x y _
/-- The sort, over a row that the call owns. -/
theorem sortSec_any (A : Option Addr) (n c base : Nat) (L : List (Nat × Nat)) (w : World) (hO : OwnR w base 43 2 A n c (L.flatMap secCells)) (hn : L.length = n) (hn2 : n ≤ 100000) :
    Calls Tryd.prog 55 #[.slice A n c, .func (.func 47) #[] #[]] w fun e w' => e = .returned (.tuple #[]) ∧ ∃ L' : List (Nat × Nat), L'.Perm L ∧ L'.Pairwise (fun a b => a.1 ≤ b.1) ∧ OwnR w' base 43 2 A n c (L'.flatMap secCells) ∧ w.grownBy w' (blk A) := by
  subst hn
  have eg : ∀ args w, (callFunc 47 args).run Tryd.prog w = .ok (.enter 47 args) w := enters_of Tryd.func47 (by kernel_rfl) rfl
  rcases hO.2 with ⟨hv, h0⟩ | ⟨g, cap, cur, hv, hbase, hh, hle, hm, hcs, htk⟩
  · injection hv with h1 h2 h3
    subst h1
    subst h3
    rw [h0]
    have hL : L = [] := List.eq_nil_of_length_eq_zero h0
    subst hL
    have h := AnyF.slices_SortFunc_none (P := Tryd.prog) (ρ := sortSec_ren) { sortSec with } none 0 (.func (.func 47) #[] #[]) w
    refine h.mono ?_
    rintro e w' ⟨rfl, rfl⟩
    exact ⟨rfl, [], List.Perm.refl _, List.Pairwise.nil, OwnR.nil _ _ _ _, World.grownBy.refl _ _⟩
  · injection hv with h1 h2 h3
    subst h1
    subst h3
    have hsz : (Go.Sort.flatK secCells 2 L.toArray).size = L.length * 2 := by simp
    have htk' : cur.toList.take (Go.Sort.flatK secCells 2 L.toArray).size = (Go.Sort.flatK secCells 2 L.toArray).toList := by rw [hsz, flat_sec]; exact htk
    have hH : Go.Sort.HoldsK secCells 2 w g 0 L.toArray := holds_of_cells hh htk'
    have h := AnyQ.slices_SortFunc (P := Tryd.prog) (ρ := sortSec_ren) sortSec 2 Tryd.isAgg43 Tryd.sizeOf43 secCells (fun _ => rfl) (fun x v hv => by simp [secCells] at hv; rcases hv with rfl | rfl <;> rfl) secCmp secSWO 47 #[] g 0 c L.toArray w eg (secCmpLays g 0 _ w) hH (block_lt hh) (by simp; omega)
    simp only [List.size_toArray] at h
    change Calls Tryd.prog 55 _ _ _ at h
    refine h.mono ?_
    rintro e w' ⟨he, d', n, os, hp, hs, rfl⟩
    obtain ⟨p1, p2, p3⟩ := hp
    simp only [List.size_toArray] at p1 p3 hs
    have p4 : d'.toList.Perm L := by
      have a1 : d'.extract 0 L.length = d' := by rw [← p1]; simp
      rw [a1] at p3
      have a2 : (L.toArray.extract 0 L.length).toList = L := by simp
      rwa [a2] at p3
    have hflat : (Go.Sort.flatK secCells 2 d').toList = d'.toList.flatMap secCells := by
      have := flat_sec d'.toList
      simpa using this
    refine ⟨he, d'.toList, p4, ?_, ?_, grownBy_sortedV _⟩
    · rw [List.pairwise_iff_getElem]
      intro i j hi hj hij
      simp only [Array.length_toList] at hi hj
      have := hs i j (Nat.zero_le _) hij (by omega)
      rw [secLt, getElem!_pos d' j hj, getElem!_pos d' i hi] at this
      simp at this
      simpa using this
    · refine ⟨by rw [sec_len]; simp [p1], .inr ⟨g, c, _, rfl, hbase, heap_sortedV _ hh, hle, hm, by simp [Go.Sort.putCells, hcs], ?_⟩⟩
      rw [← hflat]
      have hz : (Go.Sort.flatK secCells 2 d').size = L.length * 2 := by simp [p1]
      rw [← hz]
      exact take_putCellsV cur _ (by rw [hz, hcs]; omega)
end Go.Proofs.YtjfpiidofbjdhaaDoor
