/-
  measure: the library's sort by measure's own comparison of sections.
-/
import Derived.Test.YtcedojmhgmgcgaaGreatDoorMp5
namespace Go.Proofs.YtcedojmhgmgcgaaGreatDoor
open Go.RowKit Go
set_option linter.unusedVariables false
set_option linter.unusedSimpArgs false
set_option maxRecDepth 100000
open Go.Shelf Go.Lib
attribute [local go_sem] Oper.semAt_some
set_option maxHeartbeats 1000000 in
theorem secClosureM (x y : Nat × Nat) (W : World) : Calls Tryz.prog 38 #[.agg #[.int .u32 (x.1 : Nat), .int .u32 (x.2 : Nat)], .agg #[.int .u32 (y.1 : Nat), .int .u32 (y.2 : Nat)]] W fun e w' => e = .returned (.int .i64 (secCmp x y)) ∧ ∃ q os', w' = Go.Sort.grow (W.drewN q) os' := by
  have C := Lib.hid (fun W => cmpC_any x.1 y.1 W)
  unfold secCmp
  obtain ⟨x1, x2⟩ := x
  obtain ⟨y1, y2⟩ := y
  dsimp only at *
  obtain ⟨r, hr⟩ : ∃ r, cmpN x1 y1 = r := ⟨_, rfl⟩
  rw [hr] at C ⊢
  clear hr
  go_enter Tryz.func38, Tryz.ntmps38
  go_wp2_with fail
  (with_reducible refine (C.out _).mono ?_)
  rintro e w' ⟨rfl, rfl⟩
  go_wp2_with fail
  go_ret
  exact ⟨rfl, 0, _, by rw [Go.Sort.alloc_eq_grow, Go.Sort.alloc_eq_grow, Go.Sort.grow_grow]; rfl⟩
theorem secCmpLaysM (blk off size : Nat) (w : World) : CmpLays Tryz.prog 38 #[] secCells 2 secCmp blk off size w :=
  fun _ _ _ _ x y => secClosureM x y _
/-- The sort, over a row that the call owns. -/
theorem sortSecM_any (A : Option Addr) (n c base : Nat) (L : List (Nat × Nat)) (w : World) (hO : OwnR w base 60 2 A n c (L.flatMap secCells)) (hn : L.length = n) (hn2 : n ≤ 100000) :
    Calls Tryz.prog 63 #[.slice A n c, .func (.func 38) #[] #[]] w fun e w' => e = .returned (.tuple #[]) ∧ ∃ L' : List (Nat × Nat), L'.Perm L ∧ L'.Pairwise (fun a b => a.1 ≤ b.1) ∧ OwnR w' base 60 2 A n c (L'.flatMap secCells) ∧ w.grownBy w' (blk A) := by
  subst hn
  have eg : ∀ args w, (callFunc 38 args).run Tryz.prog w = .ok (.enter 38 args) w := enters_of Tryz.func38 (by kernel_rfl) rfl
  rcases hO.2 with ⟨hv, h0⟩ | ⟨g, cap, cur, hv, hbase, hh, hle, hm, hcs, htk⟩
  · injection hv with h1 h2 h3
    subst h1
    subst h3
    rw [h0]
    have hL : L = [] := List.eq_nil_of_length_eq_zero h0
    subst hL
    have h := AnyF.slices_SortFunc_none (P := Tryz.prog) (ρ := sortSec_ren) { sortSec with } none 0 (.func (.func 38) #[] #[]) w
    refine h.mono ?_
    rintro e w' ⟨rfl, rfl⟩
    exact ⟨rfl, [], List.Perm.refl _, List.Pairwise.nil, OwnR.nil _ _ _ _, World.grownBy.refl _ _⟩
  · injection hv with h1 h2 h3
    subst h1
    subst h3
    have hsz : (Go.Sort.flatK secCells 2 L.toArray).size = L.length * 2 := by simp
    have htk' : cur.toList.take (Go.Sort.flatK secCells 2 L.toArray).size = (Go.Sort.flatK secCells 2 L.toArray).toList := by rw [hsz, flat_sec]; exact htk
    have hH : Go.Sort.HoldsK secCells 2 w g 0 L.toArray := holds_of_cells hh htk'
    have h := AnyQ.slices_SortFunc (P := Tryz.prog) (ρ := sortSec_ren) sortSec 2 Tryz.isAgg60 Tryz.sizeOf60 secCells (fun _ => rfl) (fun x v hv => by simp [secCells] at hv; rcases hv with rfl | rfl <;> rfl) secCmp secSWO 38 #[] g 0 c L.toArray w eg (secCmpLaysM g 0 _ w) hH (block_lt hh) (by simp; omega)
    simp only [List.size_toArray] at h
    change Calls Tryz.prog 63 _ _ _ at h
    refine h.mono ?_
    rintro e w' ⟨he, d', n, os, hp, hs, rfl⟩
    obtain ⟨p1, p2, p3⟩ := hp
    simp only [List.size_toArray] at p1 p3 hs
    have p4 : d'.toList.Perm L := by
      have a1 : d'.extract 0 L.length = d' := by rw [← p1]; simp
      rw [a1] at p3
      have a2 : (L.toArray.extract 0 L.length).toList = L := by simp
      rwa [a2] at p3
    have hflat : (Go.Sort.flatK secCells 2 d').toList = d'.toList.flatMap secCells := by
      have := flat_sec d'.toList
      simpa using this
    refine ⟨he, d'.toList, p4, ?_, ?_, grownBy_sortedV _⟩
    · rw [List.pairwise_iff_getElem]
      intro i j hi hj hij
      simp only [Array.length_toList] at hi hj
      have := hs i j (Nat.zero_le _) hij (by omega)
      rw [secLt, getElem!_pos d' j hj, getElem!_pos d' i hi] at this
      simp at this
      simpa using this
    · refine ⟨by rw [sec_len]; simp [p1], .inr ⟨g, c, _, rfl, hbase, heap_sortedV _ hh, hle, hm, by simp [Go.Sort.putCells, hcs], ?_⟩⟩
      rw [← hflat]
      have hz : (Go.Sort.flatK secCells 2 d').size = L.length * 2 := by simp [p1]
      rw [← hz]
      exact take_putCellsV cur _ (by rw [hz, hcs]; omega)
theorem sortedM_any (bx : Nat) (A0 : Option Addr) (n0 c0 : Nat) (L : List (Nat × Nat)) (w : World) (hR : ReadR w A0 (L.flatMap secCells)) (hl : L.length = n0) (hn : n0 ≤ 100000) (hbx : w.heap[bx]? = some (.cells #[.slice A0 n0 c0] 27)) :
    Calls Tryz.prog 36 #[.func (.func 64) #[] #[.pointer (some ⟨bx, 0, none⟩)], .func (.func 38) #[] #[]] w (SortPost w L) := by
  have C := Lib.hid (collect_any bx A0 n0 c0 L w hR hl hn hbx)
  clear hR hbx
  go_enter Tryz.func36, Tryz.ntmps36
  go_wp2_with fail
  (with_reducible refine C.out.mono ?_)
  rintro e w' ⟨A, c, rfl, ho, hb⟩
  have D := Lib.hid (sortSecM_any A L.length c w.heap.size L w' ho rfl (by omega))
  have HB := Lib.hid hb
  have hw1 := hb.size
  have HBL : Hid (∀ k, blk A = some k → w.heap.size ≤ k) := fun k hk => (ho.blk_lt hk).1
  rw [hl] at D
  clear ho hb C
  go_wp2_with fail
  (with_reducible refine D.out.mono ?_)
  rintro e w2 ⟨rfl, L', hp, hs, ho, hg⟩
  have HH : Hid (SortPost w L (.returned (.slice A L.length c)) w2) := ⟨A, c, L', rfl, hp, hs, by rw [hl]; exact ho, HB.out.grown hg HB.out.size (fun k hk => HBL.out k hk)⟩
  rw [hl] at HH
  clear hp hs ho hg D HB HBL
  go_wp2_with fail
  go_ret
  exact HH.out
end Go.Proofs.YtcedojmhgmgcgaaGreatDoor
