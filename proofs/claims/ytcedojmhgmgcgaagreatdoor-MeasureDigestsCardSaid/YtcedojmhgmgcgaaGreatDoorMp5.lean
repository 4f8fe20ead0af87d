/-
  pe: the library's sort at sections: the shelf's contract laid at this program, and what it comes to over a row that the call owns; AppendSeq, Collect, SortedFunc.
-/
import Derived.Shelf.SlSortCmp.NoneTotal
import Derived.Test.YtcedojmhgmgcgaaGreatDoorMp1
import Derived.Test.YtcedojmhgmgcgaaGreatDoorMp1
import Derived.OwnWalk
import Derived.Test.YtcedojmhgmgcgaaGreatDoorMp2
namespace Go.Proofs.YtcedojmhgmgcgaaGreatDoor
open Go.Shelf Go.RowKit Go Go.Lib
set_option linter.unusedVariables false
set_option maxRecDepth 100000
attribute [local go_sem] Oper.semAt_some
def sortSec_ren : Go.Shelf.Ren := ⟨fun | 6 => 63 | 15 => 84 | 14 => 83 | 28 => 100 | 29 => 101 | 20 => 92 | 21 => 93 | 22 => 94 | 23 => 95 | 24 => 96 | 25 => 97 | 26 => 98 | 27 => 99 | 46 => 102 | 47 => 103 | 48 => 104 | 49 => 105 | 50 => 106 | 57 => 107 | n => n, fun | 22 => 27 | 24 => 60 | 25 => 89 | 3 => 3 | 39 => 104 | 0 => 0 | 53 => 26 | 55 => 61 | 4 => 4 | 46 => 146 | 45 => 145 | 50 => 92 | 5 => 5 | 9 => 9 | 66 => 154 | 70 => 158 | 76 => 160 | 77 => 161 | n => n, fun | n => n⟩
theorem sortSec : Go.Proofs.SlLaysF0.n6 Tryz.prog sortSec_ren := {
  mixed := by kernel_rfl
  f6 := ⟨Tryz.f63.name, by decide, Tryz.func63.trans (congrArg some (by kernel_rfl))⟩
  f14 := ⟨Tryz.f83.name, by decide, Tryz.func83.trans (congrArg some (by kernel_rfl))⟩
  f15 := Tryz.func84.trans (congrArg some (by kernel_rfl))
  f20 := ⟨Tryz.f92.name, by decide, Tryz.func92.trans (congrArg some (by kernel_rfl))⟩
  f21 := ⟨Tryz.f93.name, by decide, Tryz.func93.trans (congrArg some (by kernel_rfl))⟩
  f22 := ⟨Tryz.f94.name, by decide, Tryz.func94.trans (congrArg some (by kernel_rfl))⟩
  f23 := ⟨Tryz.f95.name, by decide, Tryz.func95.trans (congrArg some (by kernel_rfl))⟩
  f24 := ⟨Tryz.f96.name, by decide, Tryz.func96.trans (congrArg some (by kernel_rfl))⟩
  f25 := ⟨Tryz.f97.name, by decide, Tryz.func97.trans (congrArg some (by kernel_rfl))⟩
  f26 := ⟨Tryz.f98.name, by decide, Tryz.func98.trans (congrArg some (by kernel_rfl))⟩
  f27 := ⟨Tryz.f99.name, by decide, Tryz.func99.trans (congrArg some (by kernel_rfl))⟩
  f28 := Tryz.func100.trans (congrArg some (by kernel_rfl))
  f29 := Tryz.func101.trans (congrArg some (by kernel_rfl))
  f46 := ⟨Tryz.f102.name, by decide, Tryz.func102.trans (congrArg some (by kernel_rfl))⟩
  f47 := Tryz.func103.trans (congrArg some (by kernel_rfl))
  f48 := Tryz.func104.trans (congrArg some (by kernel_rfl))
  f49 := ⟨Tryz.f105.name, by decide, Tryz.func105.trans (congrArg some (by kernel_rfl))⟩
  f50 := ⟨Tryz.f106.name, by decide, Tryz.func106.trans (congrArg some (by kernel_rfl))⟩
  f57 := ⟨Tryz.f107.name, by decide, Tryz.func107.trans (congrArg some (by kernel_rfl))⟩
  t0 := Tryz.underlying0
  a0 := Tryz.isAgg0
  z0 := Tryz.sizeOf0
  v0 := Tryz.zeroValue0
  t3 := Tryz.underlying3
  a3 := Tryz.isAgg3
  z3 := Tryz.sizeOf3
  v3 := Tryz.zeroValue3
  t4 := Tryz.underlying4
  a4 := Tryz.isAgg4
  z4 := Tryz.sizeOf4
  v4 := Tryz.zeroValue4
  t5 := Tryz.underlying5
  a5 := Tryz.isAgg5
  z5 := Tryz.sizeOf5
  v5 := Tryz.zeroValue5
  t9 := Tryz.underlying9
  a9 := Tryz.isAgg9
  z9 := Tryz.sizeOf9
  v9 := Tryz.zeroValue9
  t22 := Tryz.underlying27
  a22 := Tryz.isAgg27
  z22 := Tryz.sizeOf27
  v22 := Tryz.zeroValue27
  t25 := Tryz.underlying89
  a25 := Tryz.isAgg89
  z25 := Tryz.sizeOf89
  v25 := Tryz.zeroValue89
  t39 := Tryz.underlying104
  a39 := Tryz.isAgg104
  z39 := Tryz.sizeOf104
  v39 := Tryz.zeroValue104
  t45 := Tryz.underlying145
  a45 := Tryz.isAgg145
  z45 := Tryz.sizeOf145
  v45 := Tryz.zeroValue145
  t46 := Tryz.underlying146
  a46 := Tryz.isAgg146
  z46 := Tryz.sizeOf146
  v46 := Tryz.zeroValue146
  t50 := Tryz.underlying92
  a50 := Tryz.isAgg92
  z50 := Tryz.sizeOf92
  v50 := Tryz.zeroValue92
  t53 := Tryz.underlying26
  a53 := Tryz.isAgg26
  z53 := Tryz.sizeOf26
  v53 := Tryz.zeroValue26
  t55 := Tryz.underlying61
  a55 := Tryz.isAgg61
  z55 := Tryz.sizeOf61
  v55 := Tryz.zeroValue61
  t66 := Tryz.underlying154
  a66 := Tryz.isAgg154
  z66 := Tryz.sizeOf154
  v66 := Tryz.zeroValue154
  t70 := Tryz.underlying158
  a70 := Tryz.isAgg158
  z70 := Tryz.sizeOf158
  v70 := Tryz.zeroValue158
  t76 := Tryz.underlying160
  a76 := Tryz.isAgg160
  z76 := Tryz.sizeOf160
  v76 := Tryz.zeroValue160
  t77 := Tryz.underlying161
  a77 := Tryz.isAgg161
  z77 := Tryz.sizeOf161
  v77 := Tryz.zeroValue161 }
/-! ### Rows of cells, between the two vocabularies -/
theorem holds_of_cells {w : World} {g : Nat} {cur F : Array Value} {e : TypeId} (hb : w.heap[g]? = some (.cells cur e (0, 0))) (ht : cur.toList.take F.size = F.toList) : Go.Sort.Holds id w g 0 F := by
  intro j hj
  refine ⟨?_, by simp [World.frozen?, hb]⟩
  have h1 : (cur.toList.take F.size)[j]? = F.toList[j]? := by rw [ht]
  rw [List.getElem?_take_of_lt hj] at h1
  simp only [World.cell?, hb, Nat.zero_add]
  simp only [Option.isSome_none, Bool.false_eq_true, if_false]
  rw [← Array.getElem?_toList, h1]
  simp [hj]
theorem heap_sortedV {w : World} {g n : Nat} {os : Array Obj} {cur : Array Value} {e : TypeId} {fr : Nat × Nat} (F : Array Value) (hb : w.heap[g]? = some (.cells cur e fr)) :
    (Go.Sort.grow (Go.Sort.putRow id (Go.Sort.ahead w n) g 0 F) os).heap[g]? = some (.cells (Go.Sort.putCells id 0 F cur) e fr) := by
  have hg : g < w.heap.size := (Array.getElem?_eq_some_iff.1 hb).1
  rw [Go.Sort.heap_grow_old _ _ (by simpa using hg)]
  simp [Go.Sort.putRow, Go.Sort.mapBlock, Go.Sort.ahead, Array.getElem?_modify, hb, Go.Sort.onCells]
theorem grownBy_sortedV {w : World} {g n : Nat} {os : Array Obj} (F : Array Value) : w.grownBy (Go.Sort.grow (Go.Sort.putRow id (Go.Sort.ahead w n) g 0 F) os) (some g) := by
  refine ⟨rfl, rfl, rfl, by simp, fun k hk hne => ?_⟩
  rw [Go.Sort.heap_grow_old _ _ (by simpa using hk)]
  have : g ≠ k := fun e => hne (by rw [e])
  simp [Go.Sort.putRow, Go.Sort.mapBlock, Go.Sort.ahead, Array.getElem?_modify, this]
theorem take_putCellsV (cur F : Array Value) (h : F.size ≤ cur.size) : (Go.Sort.putCells id 0 F cur).toList.take F.size = F.toList := by
  apply List.ext_getElem?
  intro j
  by_cases hj : j < F.size
  · rw [List.getElem?_take_of_lt hj, Array.getElem?_toList]
    simp [Go.Sort.putCells, hj, show j < cur.size by omega]
  · rw [List.getElem?_take_eq_none (by omega), List.getElem?_eq_none (by simp; omega)]
theorem flat_sec (L : List (Nat × Nat)) : (Go.Sort.flatK secCells 2 L.toArray).toList = L.flatMap secCells := by
  apply List.ext_getElem?
  intro t
  by_cases ht : t < L.length * 2
  · have h1 : (Go.Sort.flatK secCells 2 L.toArray)[t]! = (secCells L.toArray[t / 2]!)[t % 2]! := Go.Sort.get_flatK _ _ _ _ (by simpa using ht)
    obtain ⟨x, hx⟩ : ∃ x, L[t / 2]? = some x := ⟨_, List.getElem?_eq_getElem (by omega)⟩
    obtain ⟨s0, s1⟩ := sec_at L (t / 2) x hx
    have hx2 : L.toArray[t / 2]! = x := by
      rw [getElem!_def]
      simp [hx]
    rw [hx2] at h1
    have hsz : t < (Go.Sort.flatK secCells 2 L.toArray).size := by simpa using ht
    rw [Array.getElem?_toList, Array.getElem?_eq_getElem hsz, ← getElem!_pos _ t hsz, h1]
    have h2 : t = t / 2 * 2 ∨ t = t / 2 * 2 + 1 := by omega
    rcases h2 with h2 | h2
    · have e1 : t / 2 * 2 = t := h2.symm
      rw [e1] at s0
      rw [show t % 2 = 0 by omega, s0]; rfl
    · have e1 : t / 2 * 2 + 1 = t := h2.symm
      rw [e1] at s1
      rw [show t % 2 = 1 by omega, s1]; rfl
  · rw [List.getElem?_eq_none (by simp; omega), List.getElem?_eq_none (by rw [sec_len]; omega)]
theorem cmpN_lt (x y : Nat) : decide (cmpN x y < 0) = decide (x < y) := by
  unfold cmpN
  by_cases h1 : x < y
  · simp [h1]
  · by_cases h2 : y < x <;> simp [h1, h2]
def secCmp (x y : Nat × Nat) : Int := cmpN x.1 y.1
theorem secLt (x y : Nat × Nat) : ltOf secCmp x y = decide (x.1 < y.1) := cmpN_lt x.1 y.1
theorem secSWO : Go.Sort.SWO (ltOf secCmp) where
  irrefl x := by rw [secLt]; simp
  trans x y z h1 h2 := by rw [secLt] at *; simp at *; omega
  ntrans x y z h1 h2 := by rw [secLt] at *; simp at *; omega
set_option maxHeartbeats 1000000 in
theorem secClosure (x y : Nat × Nat) (W : World) : Calls Tryz.prog 54 #[.agg #[.int .u32 (x.1 : Nat), .int .u32 (x.2 : Nat)], .agg #[.int .u32 (y.1 : Nat), .int .u32 (y.2 : Nat)]] W fun e w' => e = .returned (.int .i64 (secCmp x y)) ∧ ∃ q os', w' = Go.Sort.grow (W.drewN q) os' := by
  have C := Lib.hid (fun W => cmpC_any x.1 y.1 W)
  unfold secCmp
  obtain ⟨x1, x2⟩ := x
  obtain ⟨y1, y2⟩ := y
  dsimp only at *
  obtain ⟨r, hr⟩ : ∃ r, cmpN x1 y1 = r := ⟨_, rfl⟩
  rw [hr] at C ⊢
  clear hr
  go_enter Tryz.func54, Tryz.ntmps54
  go_wp2_with fail
  (with_reducible refine (C.out _).mono ?_)
  rintro e w' ⟨rfl, rfl⟩
  go_wp2_with fail
  go_ret
  exact ⟨rfl, 0, _, by rw [Go.Sort.alloc_eq_grow, Go.Sort.alloc_eq_grow, Go.Sort.grow_grow]; rfl⟩
theorem secCmpLays (blk off size : Nat) (w : World) : CmpLays Tryz.prog 54 #[] secCells 2 secCmp blk off size w :=
  fun _ _ _ _ x y => secClosure x y _
/-- The sort, over a row that the call owns. -/
theorem sortSec_any (A : Option Addr) (n c base : Nat) (L : List (Nat × Nat)) (w : World) (hO : OwnR w base 60 2 A n c (L.flatMap secCells)) (hn : L.length = n) (hn2 : n ≤ 100000) :
    Calls Tryz.prog 63 #[.slice A n c, .func (.func 54) #[] #[]] w fun e w' => e = .returned (.tuple #[]) ∧ ∃ L' : List (Nat × Nat), L'.Perm L ∧ L'.Pairwise (fun a b => a.1 ≤ b.1) ∧ OwnR w' base 60 2 A n c (L'.flatMap secCells) ∧ w.grownBy w' (blk A) := by
  subst hn
  have eg : ∀ args w, (callFunc 54 args).run Tryz.prog w = .ok (.enter 54 args) w := enters_of Tryz.func54 (by kernel_rfl) rfl
  rcases hO.2 with ⟨hv, h0⟩ | ⟨g, cap, cur, hv, hbase, hh, hle, hm, hcs, htk⟩
  · injection hv with h1 h2 h3
    subst h1
    subst h3
    rw [h0]
    have hL : L = [] := List.eq_nil_of_length_eq_zero h0
    subst hL
    have h := AnyF.slices_SortFunc_none (P := Tryz.prog) (ρ := sortSec_ren) { sortSec with } none 0 (.func (.func 54) #[] #[]) w
    refine h.mono ?_
    rintro e w' ⟨rfl, rfl⟩
    exact ⟨rfl, [], List.Perm.refl _, List.Pairwise.nil, OwnR.nil _ _ _ _, World.grownBy.refl _ _⟩
  · injection hv with h1 h2 h3
    subst h1
    subst h3
    have hsz : (Go.Sort.flatK secCells 2 L.toArray).size = L.length * 2 := by simp
    have htk' : cur.toList.take (Go.Sort.flatK secCells 2 L.toArray).size = (Go.Sort.flatK secCells 2 L.toArray).toList := by rw [hsz, flat_sec]; exact htk
    have hH : Go.Sort.HoldsK secCells 2 w g 0 L.toArray := holds_of_cells hh htk'
    have h := AnyQ.slices_SortFunc (P := Tryz.prog) (ρ := sortSec_ren) sortSec 2 Tryz.isAgg60 Tryz.sizeOf60 secCells (fun _ => rfl) (fun x v hv => by simp [secCells] at hv; rcases hv with rfl | rfl <;> rfl) secCmp secSWO 54 #[] g 0 c L.toArray w eg (secCmpLays g 0 _ w) hH (block_lt hh) (by simp; omega)
    simp only [List.size_toArray] at h
    change Calls Tryz.prog 63 _ _ _ at h
    refine h.mono ?_
    rintro e w' ⟨he, d', n, os, hp, hs, rfl⟩
    obtain ⟨p1, p2, p3⟩ := hp
    simp only [List.size_toArray] at p1 p3 hs
    have p4 : d'.toList.Perm L := by
      have a1 : d'.extract 0 L.length = d' := by rw [← p1]; simp
      rw [a1] at p3
      have a2 : (L.toArray.extract 0 L.length).toList = L := by simp
      rwa [a2] at p3
    have hflat : (Go.Sort.flatK secCells 2 d').toList = d'.toList.flatMap secCells := by
      have := flat_sec d'.toList
      simpa using this
    refine ⟨he, d'.toList, p4, ?_, ?_, grownBy_sortedV _⟩
    · rw [List.pairwise_iff_getElem]
      intro i j hi hj hij
      simp only [Array.length_toList] at hi hj
      have := hs i j (Nat.zero_le _) hij (by omega)
      rw [secLt, getElem!_pos d' j hj, getElem!_pos d' i hi] at this
      simp at this
      simpa using this
    · refine ⟨by rw [sec_len]; simp [p1], .inr ⟨g, c, _, rfl, hbase, heap_sortedV _ hh, hle, hm, by simp [Go.Sort.putCells, hcs], ?_⟩⟩
      rw [← hflat]
      have hz : (Go.Sort.flatK secCells 2 d').size = L.length * 2 := by simp [p1]
      rw [← hz]
      exact take_putCellsV cur _ (by rw [hz, hcs]; omega)
end Go.Proofs.YtcedojmhgmgcgaaGreatDoor
namespace Go.Proofs.YtcedojmhgmgcgaaGreatDoor
open Go.RowKit Go
set_option linter.unusedVariables false
set_option maxRecDepth 100000
attribute [local go_sem] Oper.semAt_some
/-- The state of the loop that collects. -/
structure LS (w : World) (pre : List (Nat × Nat)) (W : World) : Prop where
  ex : ∃ (A : Option Addr) (m c : Nat), W.heap[w.heap.size]? = some (.cells #[.slice A m c] 27) ∧ m = pre.length ∧ OwnR W (w.heap.size + 3) 60 2 A m c (pre.flatMap secCells)
  b : Below w.heap.size w W
theorem LS.grown {w : World} {pre : List (Nat × Nat)} {W W' : World} {b : Nat} (h : LS w pre W) (hg : W.grownBy W' (some b)) (h3 : w.heap.size + 1 ≤ b) (h6 : b < w.heap.size + 3) : LS w pre W' := by
  obtain ⟨⟨A, m, c, h2, hm, ho⟩, hbl⟩ := h
  exact ⟨⟨A, m, c, (hg.block _ (block_lt h2) (fun e => by injection e with e; omega)).trans h2, hm, ho.kept hg (.inr (fun e => by have := (ho.blk_lt e).1; omega))⟩, hbl.grown hg hbl.size (fun g hg => by injection hg with hg; omega)⟩
theorem LS.drewN {w : World} {pre : List (Nat × Nat)} {W : World} (h : LS w pre W) (k : Nat) : LS w pre (W.drewN k) := ⟨h.ex, kp_drewN h.b k⟩
theorem LS.drew {w : World} {pre : List (Nat × Nat)} {W : World} (h : LS w pre W) : LS w pre W.drew := ⟨h.ex, h.b.drew⟩
theorem LS.alloc {w : World} {pre : List (Nat × Nat)} {W : World} (h : LS w pre W) (o : Obj) : LS w pre (W.alloc o) := by
  obtain ⟨⟨A, m, c, h2, hm, ho⟩, hbl⟩ := h
  exact ⟨⟨A, m, c, has_alloc h2 _, hm, ho.alloc _⟩, kp_alloc hbl _⟩
/-- What is collected. -/
def ColPost (w : World) (L : List (Nat × Nat)) (e : Ending) (w' : World) : Prop :=
  ∃ (A : Option Addr) (c : Nat), e = .returned (.slice A L.length c) ∧ OwnR w' w.heap.size 60 2 A L.length c (L.flatMap secCells) ∧ Below w.heap.size w w'
set_option maxHeartbeats 2000000 in
theorem appendSeq_any (bx : Nat) (A0 : Option Addr) (n0 c0 : Nat) (L : List (Nat × Nat)) (w : World) (hR : ReadR w A0 (L.flatMap secCells)) (hl : L.length = n0) (hn : n0 ≤ 100000) (hbx : w.heap[bx]? = some (.cells #[.slice A0 n0 c0] 27)) :
    Calls Tryz.prog 82 #[.slice none 0 0, .func (.func 64) #[] #[.pointer (some ⟨bx, 0, none⟩)]] w (ColPost w L) := by
  have hbl := block_lt hbx
  refine (callsIn_wide (n := 4)).1 ?_
  refine callsIn_of_wp_marks Tryz.func82 rfl trivial ?_ rfl
  simp only [Tryz.ntmps82, List.size_toArray, List.length_cons, List.length_nil, Nat.reduceAdd, Nat.reduceSub, Array.replicate_succ, Array.replicate_zero, List.push_toArray, List.append_toArray, List.nil_append, List.cons_append]
  gi_wp2
  refine wpIn_nm fun W0 hW0 => ?_
  have k0 : W0.heap[w.heap.size]? = some (.cells #[.slice none 0 0] 27) := by rw [← hW0]; exact has_new w _
  have hb0 : Below w.heap.size w W0 := by rw [← hW0]; exact kp_alloc (Below.refl _ _) _
  have hs0 : W0.heap.size = w.heap.size + 1 := by rw [← hW0]; simp
  have HS0 := Lib.hid hs0
  have I0 : LS w [] W0 := ⟨⟨none, 0, 0, k0, rfl, OwnR.nil _ _ _ _⟩, hb0⟩
  clear hW0
  refine range_run (gf := 64) (lb := #[.pointer (some ⟨bx, 0, none⟩)]) rfl (enters_of Tryz.func64 (by kernel_rfl) rfl) (by omega) secEnc (fun x => rfl) (fun _ => False) (fun b hb => hb.elim)
    (fun pre W => LS w pre W) (fun _ _ => False) (fun xs => xs = L) (fun _ => True) (n0 + 1)
    ?hI ?hIx ?h0 ?round ?iter ?done ?stop
  case hI =>
    rintro pre W b o h1 h2 hi
    rw [HS0.out] at h1 h2
    exact hi.grown (putObj_grown W b o) (by omega) (by omega)
  case hIx => exact fun _ _ _ _ _ _ h => h.elim
  case h0 => exact fun o1 o2 => (I0.alloc _).alloc _
  case iter =>
    rw [HS0.out]
    exact values1_in n0 c0 (w.heap.size + 1) bx A0 L w hR hl hn hbx (LS w) (fun _ _ h => h.b) (fun _ _ o h => h.alloc o) (fun _ _ k h => h.drewN k) (fun _ _ h => h.drew) (by omega)
  case done =>
    rw [HS0.out]
    rintro xs W rfl ⟨⟨A, m, c, hout, hm, hown⟩, hbl2⟩ hD
    subst hm
    have hc2 := cells_1 hout
    have HO := Lib.hid hown
    have HD := Lib.hid hD
    have HB := Lib.hid hbl2
    clear hown hD hbl2
    gi_wp2
    refine ⟨by simp, .inl ⟨_, _, rfl, run_takeDeferred HD.out, ?_⟩⟩
    have hg := putObj_grown W (w.heap.size + 1) (.deferred none)
    refine ⟨_, results_tmp rfl _ _ _, ?_⟩
    have hp : ColPost w xs (.returned (.slice A xs.length c)) (W.putObj (w.heap.size + 1) (.deferred none)) := ⟨A, c, rfl, (HO.out.kept hg (.inr (fun e => by have := (HO.out.blk_lt e).1; omega))).lower (by omega), HB.out.grown hg HB.out.size (fun g hg => by injection hg with hg; omega)⟩
    rw [hl] at hp
    exact hp
  case stop => exact fun _ _ _ h => h.elim
  case round =>
    rw [HS0.out]
    rintro pre x W r o hL hD hi hlen
    obtain ⟨⟨A, m, c, hout, hm, hown⟩, hbl2⟩ := hi
    simp only [secEnc]
    gi_wp2
    have hLlt := block_lt hL
    refine ⟨has_alloc hL _, has_alloc hD _, fun b hb => hb.elim, fun r' => ?_⟩
    have b0 : ((W.alloc (.cells #[.int .u32 (x.1 : Nat), .int .u32 (x.2 : Nat)] 60)).putObj (w.heap.size + 1 + 1) (.loop r')).heap[w.heap.size]? = some (.cells #[.slice A m c] 27) := (World.putObj_heap_other (by omega)).trans (has_alloc hout _)
    have b5 : ((W.alloc (.cells #[.int .u32 (x.1 : Nat), .int .u32 (x.2 : Nat)] 60)).putObj (w.heap.size + 1 + 1) (.loop r')).heap[W.heap.size]? = some (.cells #[.int .u32 (x.1 : Nat), .int .u32 (x.2 : Nat)] 60) := (World.putObj_heap_other (by omega)).trans (has_new _ _)
    have bL : ((W.alloc (.cells #[.int .u32 (x.1 : Nat), .int .u32 (x.2 : Nat)] 60)).putObj (w.heap.size + 1 + 1) (.loop r')).heap[w.heap.size + 1 + 1]? = some (.loop r') := World.putObj_heap_same (by simp; omega)
    have bB : Below w.heap.size w ((W.alloc (.cells #[.int .u32 (x.1 : Nat), .int .u32 (x.2 : Nat)] 60)).putObj (w.heap.size + 1 + 1) (.loop r')) := (kp_alloc hbl2 _).grown (putObj_grown _ _ _) (kp_alloc hbl2 _).size (fun g hg => by injection hg with hg; omega)
    have bO : OwnR ((W.alloc (.cells #[.int .u32 (x.1 : Nat), .int .u32 (x.2 : Nat)] 60)).putObj (w.heap.size + 1 + 1) (.loop r')) (w.heap.size + 3) 60 2 A m c (pre.flatMap secCells) := (hown.alloc _).kept (putObj_grown _ _ _) (.inr (fun e => by have := (hown.blk_lt e).1; omega))
    have bS := block_lt b5
    generalize ((W.alloc (.cells #[.int .u32 (x.1 : Nat), .int .u32 (x.2 : Nat)] 60)).putObj (w.heap.size + 1 + 1) (.loop r')) = Wb at *
    have hc0 := cells_1 b0
    have hf0 := free_1 b0
    obtain ⟨hp0, hp1⟩ := cells_2 b5
    have HML := Lib.hid hm
    have hm2 : m ≤ 1000000000 := by omega
    obtain ⟨x1, x2⟩ := x
    dsimp only at *
    clear hm
    gi_wp2_with (gi_at_builtin; refine wpListIn_appL sec_row _ _ rfl rfl (w.heap.size + 3) A m c _ rfl (bO.alloc _) _ 1 1 #[.int .u32 (x1 : Nat), .int .u32 (x2 : Nat)] (0, 0) rfl (has_new _ _) rfl (by intro u hu; simp at hu; rcases hu with rfl | rfl <;> rfl) (by unfold maxLen; omega) (by omega) (by simp; omega) ?_; intro A4 c4 w4 hown4 hg4; have hne4 : ∀ j, j < w.heap.size + 3 → some j ≠ blk A := (fun j hj e => by have := (bO.blk_lt e.symm).1; omega); have d0 : w4.heap[w.heap.size]? = some (.cells #[.slice A m c] 27) := ((hg4.block _ (by simp; omega) (hne4 _ (by omega))).trans (has_alloc b0 _)); have d1 := cells_1 d0; have d2 := free_1 d0)
    have hk : ∀ j, j < w.heap.size + 3 → j ≠ w.heap.size → (w4.setCell ⟨w.heap.size, 0, none⟩ (.slice A4 (m + 1) c4)).heap[j]? = Wb.heap[j]? := fun j hj hne =>
      (heap_set_far _ _ _ _ _ hne).trans ((hg4.block j (by simp; omega) (hne4 _ hj)).trans (heap_alloc_old _ _ (by omega)))
    have hsz4 := hg4.size
    simp at hsz4
    refine ⟨(hk _ (by omega) (by omega)).trans bL, hk _ (by omega) (by omega), fun b hb => hb.elim, ⟨⟨A4, m + 1, c4, set_1 d0, by simp [HML.out], ?_⟩, ?_⟩⟩
    · have := hown4.kept (grown_one w4 (w.heap.size) 0 (.slice A4 (m + 1) c4)) (.inr (fun e => by have := (hown4.blk_lt e).1; omega))
      simpa [secCells] using this
    · exact kp_set ((kp_alloc bB _).grown hg4 (kp_alloc bB _).size (fun g hg => by have := (bO.blk_lt hg).1; omega)) (by omega)
theorem collect_any (bx : Nat) (A0 : Option Addr) (n0 c0 : Nat) (L : List (Nat × Nat)) (w : World) (hR : ReadR w A0 (L.flatMap secCells)) (hl : L.length = n0) (hn : n0 ≤ 100000) (hbx : w.heap[bx]? = some (.cells #[.slice A0 n0 c0] 27)) :
    Calls Tryz.prog 62 #[.func (.func 64) #[] #[.pointer (some ⟨bx, 0, none⟩)]] w (ColPost w L) := by
  have C := Lib.hid (appendSeq_any bx A0 n0 c0 L w hR hl hn hbx)
  clear hR hbx
  go_enter Tryz.func62, Tryz.ntmps62
  go_wp2_with fail
  (with_reducible refine C.out.mono ?_)
  rintro e w' ⟨A, c, rfl, ho, hb⟩
  have HO := Lib.hid ho
  have HB := Lib.hid hb
  clear ho hb C
  go_wp2_with fail
  go_ret
  have hp : ColPost w L (.returned (.slice A L.length c)) w' := ⟨A, c, rfl, HO.out, HB.out⟩
  rw [hl] at hp
  exact hp
/-- The sections, in the order in which they lie. -/
def SortPost (w : World) (L : List (Nat × Nat)) (e : Ending) (w' : World) : Prop :=
  ∃ (A : Option Addr) (c : Nat) (L' : List (Nat × Nat)), e = .returned (.slice A L.length c) ∧ L'.Perm L ∧ L'.Pairwise (fun a b => a.1 ≤ b.1) ∧ OwnR w' w.heap.size 60 2 A L.length c (L'.flatMap secCells) ∧ Below w.heap.size w w'
theorem sorted_any (bx : Nat) (A0 : Option Addr) (n0 c0 : Nat) (L : List (Nat × Nat)) (w : World) (hR : ReadR w A0 (L.flatMap secCells)) (hl : L.length = n0) (hn : n0 ≤ 100000) (hbx : w.heap[bx]? = some (.cells #[.slice A0 n0 c0] 27)) :
    Calls Tryz.prog 36 #[.func (.func 64) #[] #[.pointer (some ⟨bx, 0, none⟩)], .func (.func 54) #[] #[]] w (SortPost w L) := by
  have C := Lib.hid (collect_any bx A0 n0 c0 L w hR hl hn hbx)
  clear hR hbx
  go_enter Tryz.func36, Tryz.ntmps36
  go_wp2_with fail
  (with_reducible refine C.out.mono ?_)
  rintro e w' ⟨A, c, rfl, ho, hb⟩
  have D := Lib.hid (sortSec_any A L.length c w.heap.size L w' ho rfl (by omega))
  have HB := Lib.hid hb
  have hw1 := hb.size
  have HBL : Hid (∀ k, blk A = some k → w.heap.size ≤ k) := fun k hk => (ho.blk_lt hk).1
  rw [hl] at D
  clear ho hb C
  go_wp2_with fail
  (with_reducible refine D.out.mono ?_)
  rintro e w2 ⟨rfl, L', hp, hs, ho, hg⟩
  have HH : Hid (SortPost w L (.returned (.slice A L.length c)) w2) := ⟨A, c, L', rfl, hp, hs, by rw [hl]; exact ho, HB.out.grown hg HB.out.size (fun k hk => HBL.out k hk)⟩
  rw [hl] at HH
  clear hp hs ho hg D HB HBL
  go_wp2_with fail
  go_ret
  exact HH.out
end Go.Proofs.YtcedojmhgmgcgaaGreatDoor
namespace Go.Proofs.YtcedojmhgmgcgaaGreatDoor
open Go.RowKit Go
set_option linter.unusedVariables false
set_option maxRecDepth 100000
/-- What the section table says of its i-th row: where it lies, how long it is. -/
def secAt (bs : List UInt8) (tab i : Nat) : Nat × Nat := (numQ bs (tab + 40 * i + 20) 4, numQ bs (tab + 40 * i + 16) 4)
/-- The sections that have bytes. -/
def secN (bs : List UInt8) (tab k : Nat) : List (Nat × Nat) := ((List.range k).map (secAt bs tab)).filter fun s => decide (0 < s.2)
def secIn (bs : List UInt8) (tab k : Nat) : Bool := (List.range k).all fun i => inQ bs (tab + 40 * i + 16) 4 && inQ bs (tab + 40 * i + 20) 4
theorem secN_yes (bs : List UInt8) (tab k : Nat) (h : 0 < (secAt bs tab k).2) : secN bs tab (k + 1) = secN bs tab k ++ [secAt bs tab k] := by
  unfold secN
  rw [List.range_succ, List.map_append, List.filter_append]
  simp [h]
theorem secN_no (bs : List UInt8) (tab k : Nat) (h : (secAt bs tab k).2 = 0) : secN bs tab (k + 1) = secN bs tab k := by
  unfold secN
  rw [List.range_succ, List.map_append, List.filter_append]
  simp [h]
theorem secIn_succ (bs : List UInt8) (tab k : Nat) : secIn bs tab (k + 1) = (secIn bs tab k && (inQ bs (tab + 40 * k + 16) 4 && inQ bs (tab + 40 * k + 20) 4)) := by
  unfold secIn
  rw [List.range_succ, List.all_append]
  simp
theorem secN_len (bs : List UInt8) (tab k : Nat) : (secN bs tab k).length ≤ k := by
  unfold secN
  refine Nat.le_trans (List.length_filter_le _ _) ?_
  simp
theorem secN_lt (bs : List UInt8) (tab k : Nat) : ∀ x ∈ secN bs tab k, x.1 < 4294967296 ∧ x.2 < 4294967296 ∧ 0 < x.2 := by
  intro x hx
  unfold secN at hx
  rw [List.mem_filter] at hx
  obtain ⟨h1, h2⟩ := hx
  obtain ⟨i, _, rfl⟩ := List.mem_map.1 h1
  exact ⟨numQ_lt4 _ _, numQ_lt4 _ _, of_decide_eq_true h2⟩
/-- Whether sections lie one behind the other from e on, and where the last one ends. -/
def chainS (l : List (Nat × Nat)) (e : Nat) : Bool × Nat := l.foldl (fun s x => (s.1 && decide (x.1 = s.2), x.1 + x.2)) (true, e)
theorem chainS_snoc (l : List (Nat × Nat)) (e : Nat) (x : Nat × Nat) : chainS (l ++ [x]) e = ((chainS l e).1 && decide (x.1 = (chainS l e).2), x.1 + x.2) := by
  unfold chainS
  rw [List.foldl_append]
  rfl
/-- The reader goes on, beside a row of sections that the call owns. -/
structure SS (w0 w : World) (g : Nat) (A : Option Addr) (n c : Nat) (R : Bool) (V : Option Addr) (m cV : Nat) (vs : List Value) (W : World) : Prop where
  r : RdS w0 g A n c R W
  gr : w.grownBy W (some g)
  o : OwnR W w.heap.size 60 2 V m cV vs
section
variable {w0 w : World} {g : Nat} {A : Option Addr} {n c : Nat} {R R' : Bool} {V : Option Addr} {m cV : Nat} {vs : List Value} {W W' : World}
theorem SS.step (h : SS w0 w g A n c R V m cV vs W) (hgw : g < w.heap.size) (r : RdS w0 g A n c R' W') (hg : W.grownBy W' (some g)) : SS w0 w g A n c R' V m cV vs W' :=
  ⟨r, grown_tr h.gr hg, h.o.kept hg (.inr (fun e => by have := (h.o.blk_lt e).1; omega))⟩
theorem SS.new (h : SS w0 w g A n c R V m cV vs W) (hb : Below W.heap.size W W') : SS w0 w g A n c R V m cV vs W' :=
  ⟨h.r.keep hb, gr_new h.gr (hb.mono h.gr.size), h.o.below hb (Nat.le_refl _)⟩
theorem SS.alloc (h : SS w0 w g A n c R V m cV vs W) (o : Obj) : SS w0 w g A n c R V m cV vs (W.alloc o) := h.new ((Below.refl _ _).alloc (Nat.le_refl _) o)
theorem SS.app (h : SS w0 w g A n c R V m cV vs W) (hgw : g < w.heap.size) {V' : Option Addr} {m' c' : Nat} {vs' : List Value} (ho : OwnR W' w.heap.size 60 2 V' m' c' vs') (hg : W.grownBy W' (blk V)) : SS w0 w g A n c R V' m' c' vs' W' :=
  ⟨⟨(hg.block g (block_lt h.r.h) (fun e => by have := (h.o.blk_lt e.symm).1; omega)).trans h.r.h, h.r.b.grown hg h.r.b.size (fun k hk => by have := (h.o.blk_lt hk).1; have := h.r.g; omega), h.r.g⟩,
    ⟨hg.os.trans h.gr.os, hg.tape.trans h.gr.tape, hg.output.trans h.gr.output, Nat.le_trans h.gr.size hg.size, fun i hi hne => (hg.block i (Nat.lt_of_lt_of_le hi h.gr.size) (fun e => by have := (h.o.blk_lt e.symm).1; omega)).trans (h.gr.block i hi hne)⟩, ho⟩
end
/-- What sections answers. -/
def SecPost (w0 w : World) (g : Nat) (A : Option Addr) (n c : Nat) (R : Bool) (bs : List UInt8) (tab cnt hdr : Nat) (e : Ending) (w' : World) : Prop :=
  ∃ (V : Option Addr) (m cV : Nat) (L' : List (Nat × Nat)), e = .returned (.tuple #[.slice V m cV, .int .i64 ((chainS L' hdr).2 : Nat)]) ∧ m = (secN bs tab cnt).length ∧ L'.Perm (secN bs tab cnt) ∧ L'.Pairwise (fun a b => a.1 ≤ b.1) ∧
    SS w0 w g A n c (R && secIn bs tab cnt && (chainS L' hdr).1 && decide ((chainS L' hdr).2 ≤ n)) V m cV ((secN bs tab cnt).flatMap secCells) w'
set_option maxHeartbeats 4000000 in
theorem sections_any {w0 : World} {g : Nat} {A : Option Addr} {n c : Nat} {bs : List UInt8} {R : Bool} {w : World} (hI : Img w0 A n c bs) (h : RdS w0 g A n c R w) (tab cnt hdr : Nat) (htab : tab ≤ 8589934592) (hcnt : cnt ≤ 96) (hhdr : hdr ≤ 8589934592) :
    Calls Tryz.prog 30 #[.pointer (some ⟨g, 0, none⟩), .int .i64 (tab : Nat), .int .i64 (cnt : Nat), .int .i64 (hdr : Nat)] w (SecPost w0 w g A n c R bs tab cnt hdr) := by
  have hgw := block_lt h.h
  have H0 : Hid (SS w0 w g A n c R none 0 0 [] w) := ⟨h, World.grownBy.refl _ _, OwnR.nil _ _ _ _⟩
  clear h
  go_enter Tryz.func30, Tryz.ntmps30
  go_wp2_with fail
  go_loopw [8, 18] (fun vl vi wl => ∃ (i m cV : Nat) (V : Option Addr), vl = .slice V m cV ∧ vi = .int .i64 (i : Int) ∧ i ≤ cnt ∧ Hid (m = (secN bs tab i).length) ∧ Hid (SS w0 w g A n c (R && secIn bs tab i) V m cV ((secN bs tab i).flatMap secCells) wl)) (fun _ vi _ => cnt - (intOf vi).toNat)
  case atStart => exact ⟨0, 0, 0, none, rfl, rfl, Nat.zero_le _, rfl, Lib.hid (by have := H0.out; simpa [secIn, secN] using this)⟩
  case round =>
    obtain ⟨i, m, cV, V, rfl, rfl, hi, HM, HK⟩ := hrel
    by_cases hlt : i < cnt
    · have i1 : decide ((i : Int) < (cnt : Int)) = true := by simp; omega
      have e3 : IntKind.i64.wrap ((i : Int) + 1) = (i : Int) + 1 := IntWalk.i64_in _ (by omega)
      obtain ⟨sz, hsz⟩ : ∃ x, numQ bs (tab + 40 * i + 16) 4 = x := ⟨_, rfl⟩
      obtain ⟨of, hof⟩ : ∃ x, numQ bs (tab + 40 * i + 20) 4 = x := ⟨_, rfl⟩
      have hat : secAt bs tab i = (of, sz) := by unfold secAt; rw [hsz, hof]
      have l1 : sz < 4294967296 := by rw [← hsz]; exact numQ_lt4 _ _
      have l2 : of < 4294967296 := by rw [← hof]; exact numQ_lt4 _ _
      have hml : m ≤ 96 := by have := HM.out; have := secN_len bs tab i; omega
      have C1 := Lib.hid (number_any hI ((tab : Int) + 40 * (i : Int) + 16) (tab + 40 * i + 16) 4 (by omega) (by omega) (by decide) 4 rfl HK.out.r)
      rw [hsz] at C1
      go_wp2_with fail
      (with_reducible refine C1.out.mono ?_)
      clear C1
      rintro e W1 ⟨rfl, h1, h2⟩
      have HK1 := Lib.hid (HK.out.step hgw h1 h2)
      clear h1 h2 HK
      have C2 := Lib.hid (number_any hI ((tab : Int) + 40 * (i : Int) + 20) (tab + 40 * i + 20) 4 (by omega) (by omega) (by decide) 4 rfl HK1.out.r)
      rw [hof] at C2
      go_wp2_with fail
      (with_reducible refine C2.out.mono ?_)
      clear C2
      rintro e W2 ⟨rfl, h1, h2⟩
      have hk2 := HK1.out.step hgw h1 h2
      rw [show (R && secIn bs tab i && inQ bs (tab + 40 * i + 16) 4 && inQ bs (tab + 40 * i + 20) 4) = (R && secIn bs tab (i + 1)) by rw [secIn_succ]; simp only [Bool.and_assoc]] at hk2
      have HK2 := Lib.hid hk2
      clear h1 h2 HK1 hk2 hsz hof
      by_cases h0 : 0 < sz
      · have t1 : decide ((0 : Int) < (sz : Int)) = true := by simp; omega
        have e4 : IntKind.u32.wrap (of : Int) = (of : Int) := IntWalk.u32_in _ (by omega)
        have e5 : IntKind.u32.wrap (sz : Int) = (sz : Int) := IntWalk.u32_in _ (by omega)
        have hN := Lib.hid (secN_yes bs tab i (by rw [hat]; exact h0))
        have hsz2 := HK2.out.gr.size
        go_wp2_with (at_builtin; refine wpList_appL sec_row _ _ rfl rfl rfl w.heap.size V m cV _ rfl (HK2.out.alloc _).o _ 1 1 #[.int .u32 (of : Nat), .int .u32 (sz : Nat)] (0, 0) rfl (has_new _ _) rfl (by intro u hu; simp at hu; rcases hu with rfl | rfl <;> rfl) (by unfold maxLen; omega) (by omega) (by simp; omega) ?_)
        intro V' c' w4 ho4 hg4
        have HK4 := Lib.hid ((HK2.out.alloc _).app hgw ho4 hg4)
        clear ho4 hg4 HK2
        go_wp2_with fail
        go_roundw
        case rel => exact ⟨i + 1, m + 1, c', V', by go_num, by go_num, by omega, by have := HM.out; rw [hN.out, List.length_append]; unfold Hid; simp; omega, Lib.hid (by have := HK4.out; rw [hN.out, hat]; simpa [secCells] using this)⟩
        case measure => simp [intOf]; omega
      · have t1 : decide ((0 : Int) < (sz : Int)) = false := by simp; omega
        have hN := Lib.hid (secN_no bs tab i (by rw [hat]; show sz = 0; omega))
        go_wp2_with fail
        go_roundw
        case rel => exact ⟨i + 1, m, cV, V, by go_num, by go_num, by omega, by have := HM.out; rw [hN.out]; exact this, by have := HK2.out; rw [hN.out]; exact this⟩
        case measure => simp [intOf]; omega
    · have i1 : decide ((i : Int) < (cnt : Int)) = false := by simp; omega
      obtain rfl : i = cnt := by omega
      obtain ⟨L, hL⟩ : ∃ L, secN bs tab i = L := ⟨_, rfl⟩
      obtain ⟨r1, hr1⟩ : ∃ r, (R && secIn bs tab i) = r := ⟨_, rfl⟩
      have HL := Lib.hid (And.intro hL hr1)
      have hLB := secN_lt bs tab i
      have hLl := secN_len bs tab i
      rw [hL] at HM HK hLB hLl
      rw [hr1] at HK
      clear hL hr1 i1 hi
      have hml : m ≤ 96 := by have := HM.out; omega
      have HB := Lib.hid hLB
      clear hLB hlt hLl
      go_wp2_with fail
      refine (values_any V m cV wr).mono ?_
      rintro e w1 ⟨rfl, rfl⟩
      have hk1 := HK.out.alloc (.cells #[.slice V m cV] 27)
      have C := Lib.hid (sorted_any wr.heap.size V m cV L (wr.alloc (.cells #[.slice V m cV] 27)) hk1.o.reads HM.out.symm (by omega) (has_new _ _))
      have HK1 := Lib.hid hk1
      clear hk1 HK
      go_wp2_with fail
      (with_reducible refine C.out.mono ?_)
      clear C
      rintro e w2 ⟨A2, c2, L', rfl, hp, hs, ho, hb⟩
      have HK2 := Lib.hid (HK1.out.new hb)
      have hgw2 : w.heap.size ≤ wr.heap.size + 1 := by have := HK1.out.gr.size; simp at this; exact this
      have ho' : OwnR w2 (wr.heap.size + 1) 60 2 A2 L.length c2 (L'.flatMap secCells) := by simpa using ho
      have HO2 := Lib.hid ho'
      have HP := Lib.hid hp
      have HS := Lib.hid hs
      have hm := HM.out
      have hll : L'.length = m := by rw [hp.length_eq, hm]
      have HB' : Hid (∀ x ∈ L', x.1 < 4294967296 ∧ x.2 < 4294967296 ∧ 0 < x.2) := fun x hx => HB.out x (hp.mem_iff.1 hx)
      rw [← hm] at HO2
      obtain ⟨D, hD⟩ : ∃ D, wr.heap.size + 1 = D := ⟨_, rfl⟩
      rw [hD] at HO2 hgw2
      clear hD
      clear ho ho' hp hs hb HK1 HB
      rw [← hm]
      clear hm
      go_wp2_with fail
      go_loopw [9, 50] (fun ve vk wl => ∃ (k e : Nat), ve = .int .i64 (e : Int) ∧ vk = .int .i64 (k : Int) ∧ k ≤ m ∧ e ≤ 8589934592 ∧ Hid (e = (chainS (L'.take k) hdr).2) ∧ Hid (SS w0 w g A n c (r1 && (chainS (L'.take k) hdr).1) V m cV (L.flatMap secCells) wl) ∧ Hid (OwnR wl D 60 2 A2 m c2 (L'.flatMap secCells))) (fun _ vk _ => m - (intOf vk).toNat)
      case atStart => exact ⟨0, hdr, rfl, rfl, Nat.zero_le _, hhdr, rfl, Lib.hid (by have := HK2.out; simpa [chainS] using this), HO2⟩
      case round =>
        obtain ⟨k, e, rfl, rfl, hk, hel, HE, HK, HO⟩ := hrel
        by_cases hlt : k < m
        · have i1 : decide ((k : Int) < (m : Int)) = true := by simp; omega
          have e3 : IntKind.i64.wrap ((k : Int) + 1) = (k : Int) + 1 := IntWalk.i64_in _ (by omega)
          obtain ⟨x, hx⟩ : ∃ x, L'[k]? = some x := ⟨_, List.getElem?_eq_getElem (by omega)⟩
          obtain ⟨s0, s1⟩ := sec_at L' k x hx
          obtain ⟨b, off, rfl, hb, k0⟩ := HO.out.reads.at_ s0
          obtain ⟨b', off', e9, hb', k1⟩ := HO.out.reads.at_ s1
          cases e9
          have k1' : wr.cell? ⟨b, off + k * 2 + 1, none⟩ = some (.int .u32 (x.2 : Nat)) := k1
          obtain ⟨lx1, lx2, lx3⟩ := HB'.out x (List.mem_of_getElem? hx)
          have hsn : L'.take (k + 1) = L'.take k ++ [x] := by rw [List.take_add_one, hx]; rfl
          obtain ⟨x1, x2⟩ := x
          dsimp only at k0 k1' lx1 lx2 lx3
          have HN := Lib.hid (And.intro hsn (chainS_snoc (L'.take k) hdr (x1, x2)))
          have hbs : b < wr.heap.size := hb
          clear k1 s0 s1 hb' hx hsn
          go_wp2_with fail
          (with_reducible refine (need_any _ (HK.out.alloc _).r).mono ?_)
          rintro e9 W3 ⟨rfl, h1, h2⟩
          have hgr := HK.out.r.h
          have hgl := block_lt hgr
          have k3 : W3.heap[wr.heap.size]? = some (.cells #[.int .u32 (x1 : Nat), .int .u32 (x2 : Nat)] 60) := (h2.block _ (by simp) (fun e => by injection e with e; omega)).trans (has_new _ _)
          have hk3 := (HK.out.alloc _).step hgw h1 h2
          rw [show (r1 && (chainS (L'.take k) hdr).1 && ((x1 : Int) == (e : Int))) = (r1 && (chainS (L'.take (k + 1)) hdr).1) by
            rw [HN.out.1, HN.out.2, Bool.and_assoc]
            congr 2
            rw [← HE.out]
            by_cases h : x1 = e <;> simp [h] <;> omega] at hk3
          have HK3 := Lib.hid hk3
          have HO3 := Lib.hid ((HO.out.alloc (.cells #[.int .u32 (x1 : Nat), .int .u32 (x2 : Nat)] 60)).kept h2 (.inr (fun e => by have := (HO.out.blk_lt e).1; omega)))
          obtain ⟨d0, d1⟩ := cells_2 k3
          clear h1 h2 hk3 HK HO k0 k1' hgr hgl
          go_wp2_with fail
          go_roundw
          case rel => exact ⟨k + 1, x1 + x2, by go_num, by go_num, by omega, by omega, by rw [HN.out.1, HN.out.2]; rfl, HK3, HO3⟩
          case measure => simp [intOf]; omega
        · have i1 : decide ((k : Int) < (m : Int)) = false := by simp; omega
          obtain rfl : k = m := by omega
          have htk : L'.take k = L' := by rw [← hll, List.take_length]
          rw [htk] at HE HK
          obtain ⟨c0, c1⟩ := cells_2 HK.out.r.h
          clear htk i1 hlt hk
          go_wp2_with fail
          (with_reducible refine (need_any _ HK.out.r).mono ?_)
          rintro e9 W3 ⟨rfl, h1, h2⟩
          have hk3 := HK.out.step hgw h1 h2
          have HK3 := Lib.hid hk3
          clear h1 h2 hk3 HK HO c0 c1
          go_wp2_with fail
          go_ret2
          unfold SecPost
          rw [HL.out.1, HL.out.2]
          refine ⟨V, k, cV, L', by rw [← HE.out]; rfl, HM.out, HP.out, HS.out, ?_⟩
          rw [← HE.out]
          exact HK3.out
end Go.Proofs.YtcedojmhgmgcgaaGreatDoor
namespace Go.Proofs.YtcedojmhgmgcgaaGreatDoor
open Go.RowKit Go
set_option linter.unusedVariables false
set_option maxRecDepth 100000
/-- The chain, from the front. -/
def chainR : List (Nat × Nat) → Nat → Bool × Nat
  | [], e => (true, e)
  | x :: r, e => (decide (x.1 = e) && (chainR r (x.1 + x.2)).1, (chainR r (x.1 + x.2)).2)
theorem chain_fold : ∀ (l : List (Nat × Nat)) (b : Bool) (e : Nat), l.foldl (fun s x => (s.1 && decide (x.1 = s.2), x.1 + x.2)) (b, e) = (b && (chainR l e).1, (chainR l e).2)
  | [], b, e => by simp [chainR]
  | x :: r, b, e => by
    rw [List.foldl_cons, chain_fold r]
    simp [chainR, Bool.and_assoc]
theorem chainS_eq (l : List (Nat × Nat)) (e : Nat) : chainS l e = chainR l e := by
  unfold chainS
  rw [chain_fold]
  simp
theorem chainR_ge : ∀ (l : List (Nat × Nat)) (e : Nat), (chainR l e).1 = true → ∀ y ∈ l, e ≤ y.1
  | [], e, _, y, hy => by cases hy
  | x :: r, e, h, y, hy => by
    simp only [chainR, Bool.and_eq_true, decide_eq_true_eq] at h
    rcases List.mem_cons.1 hy with rfl | hy
    · omega
    · have := chainR_ge r _ h.2 y hy
      omega
theorem chain_unique : ∀ (l l' : List (Nat × Nat)) (e : Nat), l.Perm l' → l'.Pairwise (fun a b => a.1 ≤ b.1) → (∀ x ∈ l, 0 < x.2) → (chainR l e).1 = true → l' = l
  | [], l', e, hp, _, _, _ => List.Perm.nil_eq hp ▸ rfl
  | x :: r, l', e, hp, hs, hz, hc => by
    have hc' := hc
    simp only [chainR, Bool.and_eq_true, decide_eq_true_eq] at hc
    cases l' with
    | nil => exact absurd hp.length_eq (by simp)
    | cons y s =>
      have hxy : y = x := by
        have hy : y ∈ x :: r := hp.mem_iff.2 (List.mem_cons_self ..)
        rcases List.mem_cons.1 hy with h | h
        · exact h
        · have h1 := chainR_ge r _ hc.2 y h
          have h2 := hz x (List.mem_cons_self ..)
          have hx : x ∈ y :: s := hp.mem_iff.1 (List.mem_cons_self ..)
          rcases List.mem_cons.1 hx with h3 | h3
          · exact h3.symm
          · have := (List.pairwise_cons.1 hs).1 x h3
            omega
      subst hxy
      rw [chain_unique r s _ (List.Perm.cons_inv hp) (List.pairwise_cons.1 hs).2 (fun z hz' => hz z (List.mem_cons_of_mem _ hz')) hc.2]
/-- The sections, by where they lie. -/
def riseL (l : List (Nat × Nat)) : List (Nat × Nat) := l.mergeSort fun a b => decide (a.1 ≤ b.1)
theorem riseL_perm (l : List (Nat × Nat)) : (riseL l).Perm l := List.mergeSort_perm l _
theorem riseL_sorted (l : List (Nat × Nat)) : (riseL l).Pairwise fun a b => a.1 ≤ b.1 := by
  have := List.pairwise_mergeSort (le := fun a b : Nat × Nat => decide (a.1 ≤ b.1)) (by intro a b c; simp; omega) (by intro a b; simp; omega) l
  exact this.imp (fun h => by simpa using h)
theorem chain_same (l l' : List (Nat × Nat)) (e : Nat) (hp : l'.Perm l) (hs : l'.Pairwise fun a b => a.1 ≤ b.1) (hz : ∀ x ∈ l, 0 < x.2) :
    (chainS l' e).1 = (chainS (riseL l) e).1 ∧ ((chainS (riseL l) e).1 = true → l' = riseL l) := by
  rw [chainS_eq, chainS_eq]
  have hq : (riseL l).Perm l' := (riseL_perm l).trans hp.symm
  have hz1 : ∀ x ∈ riseL l, 0 < x.2 := fun x hx => hz x ((riseL_perm l).mem_iff.1 hx)
  have hz2 : ∀ x ∈ l', 0 < x.2 := fun x hx => hz x (hp.mem_iff.1 hx)
  refine ⟨?_, fun h => chain_unique _ _ e hq hs hz1 h⟩
  cases h1 : (chainR (riseL l) e).1 with
  | true => rw [chain_unique _ _ e hq hs hz1 h1, h1]
  | false =>
    cases h2 : (chainR l' e).1 with
    | false => rfl
    | true =>
      rw [chain_unique _ _ e hq.symm (riseL_sorted l) hz2 h2, h2] at h1
      cases h1
theorem chainR_le : ∀ (l : List (Nat × Nat)) (e B : Nat), e ≤ B → (∀ x ∈ l, x.1 + x.2 ≤ B) → (chainR l e).2 ≤ B
  | [], e, B, h, _ => h
  | x :: r, e, B, h, hx => chainR_le r _ B (hx x (List.mem_cons_self ..)) (fun y hy => hx y (List.mem_cons_of_mem _ hy))
theorem chainS_le (l : List (Nat × Nat)) (e : Nat) (he : e ≤ 8589934592) (hx : ∀ x ∈ l, x.1 < 4294967296 ∧ x.2 < 4294967296) : (chainS l e).2 ≤ 8589934592 := by
  rw [chainS_eq]
  exact chainR_le l e _ he (fun x h => by have := hx x h; omega)
/-- What is read of an image. -/
structure Im where
  plus : Bool
  check : Nat
  dir : Nat
  hdr : Nat
  secs : List (Nat × Nat)
  table : Nat
  length : Nat
  sigs : List (List UInt8)
def dirQ (bs : List UInt8) : Nat := dirsQ bs + 32
def secsQ (bs : List UInt8) : List (Nat × Nat) := secN bs (tabQ bs) (cntQ bs)
def endQ (bs : List UInt8) : Nat := (chainS (riseL (secsQ bs)) (hdrQ bs)).2
def secB (bs : List UInt8) : Bool := secIn bs (tabQ bs) (cntQ bs) && (chainS (riseL (secsQ bs)) (hdrQ bs)).1 && decide (endQ bs ≤ bs.length)
def dirB (bs : List UInt8) : Bool := inQ bs (dirQ bs) 4 && inQ bs (dirQ bs + 4) 4
def ctQ (bs : List UInt8) : Nat := numQ bs (dirQ bs) 4
def clQ (bs : List UInt8) : Nat := numQ bs (dirQ bs + 4) 4
def imOf (bs : List UInt8) (t l : Nat) (sigs : List (List UInt8)) : Im := ⟨decide (magQ bs = 523), optQ bs + 64, dirQ bs, hdrQ bs, secsQ bs, t, l, sigs⟩
/-- What Parse tells: an error's number, or an image. -/
def parseQ (bs : List UInt8) : Nat ⊕ Im :=
  if 16777216 < bs.length then .inl 10
  else if (hdB bs && secB bs && dirB bs) = false then .inl 9
  else if ctQ bs = 0 ∧ clQ bs = 0 then .inr (imOf bs 0 0 [])
  else if sgB bs.length (ctQ bs) (clQ bs) (endQ bs) = false then .inl 9
  else match rowsQ bs (ctQ bs) with
    | none => .inl 9
    | some l => if 8 < l.length then .inl 10 else .inr (imOf bs (ctQ bs) (clQ bs) l)
def imVal (im : Im) (V : Option Addr) (m cV : Nat) (U : Option Addr) (k cU : Nat) : Array Value :=
  #[.bool im.plus, .int .i64 (im.check : Nat), .int .i64 (im.dir : Nat), .int .u32 (im.hdr : Nat), .slice V m cV, .int .u32 (im.table : Nat), .int .u32 (im.length : Nat), .slice U k cU]
def imZero : Array Value := #[.bool false, .int .i64 0, .int .i64 0, .int .u32 0, .slice none 0 0, .int .u32 0, .int .u32 0, .slice none 0 0]
/-- An image as it lies in memory: its sections in a row of their own, its signatures in a row of their own, each in memory of its own. -/
structure ImOwn (base : Nat) (im : Im) (V : Option Addr) (m cV : Nat) (U : Option Addr) (k cU : Nat) (xs : List Own1) (W : World) : Prop where
  ml : m = im.secs.length
  secs : OwnR W base 60 2 V m cV (im.secs.flatMap secCells)
  kl : k = xs.length
  bytes : xs.map (fun x => x.2.2.2) = im.sigs
  sigs : OwnR W base 22 1 U k cU (xs.map Own1.val)
  own : SigsOwn base xs W
def ParsePost (w : World) (bs : List UInt8) (e : Ending) (w' : World) : Prop :=
  (match parseQ bs with
    | .inl er => e = .returned (.tuple #[.agg imZero, .int .i64 (er : Nat)])
    | .inr im => ∃ (V : Option Addr) (m cV : Nat) (U : Option Addr) (k cU : Nat) (xs : List Own1), e = .returned (.tuple #[.agg (imVal im V m cV U k cU), .int .i64 0]) ∧ ImOwn w.heap.size im V m cV U k cU xs w') ∧ Below w.heap.size w w'
end Go.Proofs.YtcedojmhgmgcgaaGreatDoor
