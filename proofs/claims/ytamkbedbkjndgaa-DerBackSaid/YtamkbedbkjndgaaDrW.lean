/-
  der: Join of a list that was just built; PutInt.
-/
import Derived.Test.YtamkbedbkjndgaaDrJ
import Derived.Test.YtamkbedbkjndgaaDrV
namespace Go.Proofs.Ytamkbedbkjndgaa
open Go.RowKit Go
set_option linter.unusedVariables false
set_option maxRecDepth 100000
/-- A slice and what it reads as. -/
abbrev Row1 := Option Addr × Nat × Nat × List UInt8
def Row1.val (x : Row1) : Value := .slice x.1 x.2.1 x.2.2.1
def Row1.nul : Row1 := (none, 0, 0, [])
theorem joinN_list (l : List Row1) : ∀ k, k ≤ l.length → joinN (fun r => (l.getD r Row1.nul).2.2.2) k = (l.take k).flatMap (fun x => x.2.2.2)
  | 0, _ => rfl
  | k + 1, h => by
    rw [joinN_succ, joinN_list l k (by omega), List.take_add_one, List.getElem?_eq_getElem (by omega), List.flatMap_append]
    congr 1
    simp [List.getD_eq_getElem?_getD, List.getElem?_eq_getElem (show k < l.length by omega)]
theorem joins_any (l : List Row1) (m : Nat) (cs : Array Value) (w : World) (g : Nat) (hg : w.heap.size = g) (hl : l.length = m) (hm : m ≤ 1000000) (hcs : cs.toList = l.map Row1.val) (hR : ∀ x ∈ l, RB w x.1 x.2.1 x.2.2.2)
    (hlen : (l.flatMap (fun x => x.2.2.2)).length ≤ 140737488355328) :
    Calls Try.prog 25 #[.slice (some ⟨g, 0, none⟩) m m] (w.alloc (.cells cs 22)) (Fresh w (l.flatMap (fun x => x.2.2.2))) := by
  subst hg
  have hj := joinN_list l m (by omega)
  rw [List.take_of_length_le (by omega)] at hj
  have hP : Parts (w.alloc (.cells cs 22)) (some ⟨w.heap.size, 0, none⟩) m (fun r => ((l.getD r Row1.nul).1, (l.getD r Row1.nul).2.1, (l.getD r Row1.nul).2.2.1)) (fun r => (l.getD r Row1.nul).2.2.2) := fun _ => by
    refine ⟨w.heap.size, 0, rfl, by simp, fun r hr => ?_⟩
    have hg : l.getD r Row1.nul = l[r]'(by omega) := by
      rw [List.getD_eq_getElem?_getD, List.getElem?_eq_getElem (by omega)]; rfl
    simp only [hg]
    refine ⟨?_, (hR _ (List.getElem_mem _)).alloc _⟩
    rw [cell_of_row _ w.heap.size (0 + r) cs 22 _ (heap_alloc_new w _), ← Array.getElem?_toList, hcs, Nat.zero_add, List.getElem?_map, List.getElem?_eq_getElem (by omega)]
    rfl
  refine (join_any _ m m _ _ _ hP hm (by rw [hj]; exact hlen)).mono ?_
  rintro e w' ⟨A, n, c, rfl, hown, hb⟩
  rw [hj] at hown
  exact ⟨A, n, c, rfl, hown.lower (by simp), ((Below.refl _ _).alloc (Nat.le_refl _) _).trans (hb.mono (by simp))⟩
theorem trimZ_le (bs : List UInt8) : (trimZ bs).length ≤ bs.length := by
  induction bs with
  | nil => exact Nat.le_refl _
  | cons d r ih =>
    rw [trimZ_cons]
    split
    · simp; omega
    · exact Nat.le_refl _
/-- The body of a number. -/
def putI (bs : List UInt8) : List UInt8 := match trimZ bs with
  | [] => [0]
  | d :: r => if 128 ≤ d.toNat then 0 :: d :: r else d :: r
theorem putint_any (A : Option Addr) (n c : Nat) (bs : List UInt8) (w : World) (hR : RB w A n bs) (hnc : n ≤ c) (hc : c ≤ maxLen) (hn : n ≤ 1000000000) (hcc : c ≤ 9223372036854775807) :
    Calls Try.prog 27 #[.slice A n c] w (Fresh w (putI bs)) := by
  have C := Lib.hid (without_any A n c bs w hR hnc hc)
  go_enter Try.func27, Try.ntmps27
  go_wp2_with fail
  refine C.out.mono ?_
  rintro e w' ⟨⟨A1, n1, c1, rfl, hR1, hn1, hc1⟩, rfl⟩
  have hn1n : n1 ≤ n := by rw [← hR1.1, ← hR.1]; exact trimZ_le bs
  clear hR
  by_cases h0 : n1 = 0
  · have hz : trimZ bs = [] := List.length_eq_zero_iff.1 (by have := hR1.1; omega)
    have J := Lib.hid (joins_any [(some ⟨w.heap.size, 0, none⟩, 1, 1, [0]), (A1, n1, c1, trimZ bs)] 2 #[.slice (some ⟨w.heap.size, 0, none⟩) 1 1, .slice A1 n1 c1] (w.alloc (.cells #[.int .u8 0] 5)) (w.heap.size + 1) (by simp) rfl (by omega) rfl
      (by intro x hx; simp at hx; rcases hx with rfl | rfl; exact ⟨rfl, (bs_new w [0] _ _ _ rfl).more (by simp)⟩; exact hR1.alloc _) (by simp [hz]))
    subst h0
    go_wp2_with fail
    (with_reducible refine J.out.mono ?_)
    rintro e w2 ⟨A2, n2, c2, rfl, hown, hb⟩
    go_wp2
    go_ret
    refine ⟨A2, n2, c2, rfl, ?_, ((Below.refl _ _).alloc (Nat.le_refl _) _).trans (hb.mono (by simp))⟩
    have := hown.lower (base' := w.heap.size) (by simp)
    simpa [putI, hz] using this
  · obtain ⟨b, off, d, rfl, hlt, hd, hcell⟩ := hR1.at_ (k := 0) (by omega)
    obtain ⟨r, hr⟩ : ∃ r, trimZ bs = d :: r := by
      cases h : trimZ bs with
      | nil => rw [h] at hd; simp at hd
      | cons x y => rw [h] at hd; simp at hd; subst hd; exact ⟨y, rfl⟩
    have hcell' : w.cell? ⟨b, off, none⟩ = some (.int .u8 (d.toNat : Int)) := hcell
    have hle : (trimZ bs).length ≤ 200000000000 := by rw [hR1.1]; omega
    by_cases hbig : 128 ≤ d.toNat
    · have J := Lib.hid (joins_any [(some ⟨w.heap.size, 0, none⟩, 1, 1, [0]), (some ⟨b, off, none⟩, n1, c1, trimZ bs)] 2 #[.slice (some ⟨w.heap.size, 0, none⟩) 1 1, .slice (some ⟨b, off, none⟩) n1 c1] (w.alloc (.cells #[.int .u8 0] 5)) (w.heap.size + 1) (by simp) rfl (by omega) rfl
        (by intro x hx; simp at hx; rcases hx with rfl | rfl; exact ⟨rfl, (bs_new w [0] _ _ _ rfl).more (by simp)⟩; exact hR1.alloc _) (by simp; omega))
      have hr := Lib.hid hr
      clear hd hcell
      go_wp2_with fail
      (with_reducible refine J.out.mono ?_)
      rintro e w2 ⟨A2, n2, c2, rfl, hown, hb⟩
      go_wp2
      go_ret
      refine ⟨A2, n2, c2, rfl, ?_, ((Below.refl _ _).alloc (Nat.le_refl _) _).trans (hb.mono (by simp))⟩
      have := hown.lower (base' := w.heap.size) (by simp)
      simpa [putI, hr.out, hbig] using this
    · have t0 : ((n1 : Int) == 0) = false := by simp; omega
      have t1 : (d.toNat : Int) < 128 := by omega
      have t2 : decide ((128 : Int) ≤ (d.toNat : Int)) = false := by simp; omega
      have J := Lib.hid (joins_any [(some ⟨b, off, none⟩, n1, c1, trimZ bs)] 1 #[.slice (some ⟨b, off, none⟩) n1 c1] w w.heap.size rfl rfl (by omega) rfl
        (by intro x hx; simp at hx; subst hx; exact hR1) (by simp; omega))
      have hr := Lib.hid hr
      clear hd hcell
      go_wp2_with fail
      (with_reducible refine J.out.mono ?_)
      rintro e w2 ⟨A2, n2, c2, rfl, hown, hb⟩
      go_wp2
      go_ret
      refine ⟨A2, n2, c2, rfl, ?_, hb⟩
      simpa [putI, hr.out, hbig] using hown
end Go.Proofs.Ytamkbedbkjndgaa
