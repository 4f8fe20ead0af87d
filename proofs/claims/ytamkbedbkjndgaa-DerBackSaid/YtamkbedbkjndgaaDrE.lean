/-
  der: a piece in memory of its own.
-/
import Derived.Test.YtamkbedbkjndgaaDrW
import Derived.Test.YtamkbedbkjndgaaSg
import Derived.Deep.RegionHeld3
namespace Go.Proofs.Ytamkbedbkjndgaa
open Go.RowKit Go
set_option linter.unusedVariables false
set_option maxRecDepth 100000
/-- Join of a list that lies in a block. -/
theorem joinsH_any (l : List Row1) (m : Nat) (cs : Array Value) (t : TypeId) (mk : Nat × Nat) (w : World) (g : Nat) (hg : w.heap[g]? = some (.cells cs t mk)) (hl : l.length = m) (hm : m ≤ 1000000) (hcs : cs.toList = l.map Row1.val) (hR : ∀ x ∈ l, RB w x.1 x.2.1 x.2.2.2)
    (hlen : (l.flatMap (fun x => x.2.2.2)).length ≤ 140737488355328) :
    Calls Try.prog 25 #[.slice (some ⟨g, 0, none⟩) m m] w (Fresh w (l.flatMap (fun x => x.2.2.2))) := by
  have hj := joinN_list l m (by omega)
  rw [List.take_of_length_le (by omega)] at hj
  have hP : Parts w (some ⟨g, 0, none⟩) m (fun r => ((l.getD r Row1.nul).1, (l.getD r Row1.nul).2.1, (l.getD r Row1.nul).2.2.1)) (fun r => (l.getD r Row1.nul).2.2.2) := fun _ => by
    refine ⟨g, 0, rfl, block_lt hg, fun r hr => ?_⟩
    have hg2 : l.getD r Row1.nul = l[r]'(by omega) := by
      rw [List.getD_eq_getElem?_getD, List.getElem?_eq_getElem (by omega)]; rfl
    simp only [hg2]
    refine ⟨?_, hR _ (List.getElem_mem _)⟩
    rw [cell_of_row _ g (0 + r) cs t _ hg, ← Array.getElem?_toList, hcs, Nat.zero_add, List.getElem?_map, List.getElem?_eq_getElem (by omega)]
    rfl
  have := join_any (some ⟨g, 0, none⟩) m m _ _ _ hP hm (by rw [hj]; exact hlen)
  rw [hj] at this
  exact this
theorem OwnB.far {w w' : World} {base g n c : Nat} {A : Option Addr} {bs : List UInt8} (h : OwnB w base A n c bs) (hg : w.grownBy w' (some g)) (hlt : g < base) : OwnB w' base A n c bs :=
  h.kept hg (.inr (fun e => by have := (h.blk_lt e).1; omega))
theorem blk_ne {w w' : World} {base base' n c n' c' : Nat} {A A' : Option Addr} {bs bs' : List UInt8} (h : OwnB w base A n c bs) (h' : OwnB w' base' A' n' c' bs') (hlt : w.heap.size ≤ base') : blk A = none ∨ blk A ≠ blk A' := by
  cases e : blk A with
  | none => exact .inl rfl
  | some k =>
    right
    intro e2
    have h1 := (h.blk_lt e).2
    have h2 := (h'.blk_lt e2.symm).1
    omega
/-- What a piece becomes. -/
def ElemPost (w : World) (tag : UInt8) (body raw : List UInt8) (e : Ending) (w' : World) : Prop :=
  ∃ A1 n1 c1 A2 n2 c2, e = .returned (.agg #[.int .u8 (tag.toNat : Int), .slice A1 n1 c1, .slice A2 n2 c2]) ∧ OwnB w' w.heap.size A1 n1 c1 body ∧ OwnB w' w.heap.size A2 n2 c2 raw ∧ (blk A1 = none ∨ blk A1 ≠ blk A2) ∧ Below w.heap.size w w'
set_option maxHeartbeats 1000000 in
theorem elem_any (b off rn rc : Nat) (B : Option Addr) (bn bc : Nat) (tag : UInt8) (raw body : List UInt8) (w : World) (hraw : RB w (some ⟨b, off, none⟩) rn raw) (hrn : 0 < rn) (htag : w.cell? ⟨b, off, none⟩ = some (.int .u8 (tag.toNat : Int))) (hbody : RB w B bn body) (hrl : rn ≤ 1000000000) (hbl : bn ≤ 1000000000) :
    Calls Try.prog 33 #[.agg #[.slice (some ⟨b, off, none⟩) rn rc, .slice B bn bc]] w (ElemPost w tag body raw) := by
  have hl1 := hraw.1
  have hl2 := hbody.1
  have JB : Hid (∀ W g, Below w.heap.size w W → W.heap[g]? = some (.cells #[.slice B bn bc] 22) → Calls Try.prog 25 #[.slice (some ⟨g, 0, none⟩) 1 1] W (Fresh W body)) := fun W g hb hg => by
    have := joinsH_any [(B, bn, bc, body)] 1 #[.slice B bn bc] _ _ W g hg rfl (by omega) rfl (by intro x hx; simp at hx; subst hx; exact hbody.below hb) (by simp; omega)
    simpa using this
  have JR : Hid (∀ W g, Below w.heap.size w W → W.heap[g]? = some (.cells #[.slice (some ⟨b, off, none⟩) rn rc] 22) → Calls Try.prog 25 #[.slice (some ⟨g, 0, none⟩) 1 1] W (Fresh W raw)) := fun W g hb hg => by
    have := joinsH_any [(some ⟨b, off, none⟩, rn, rc, raw)] 1 #[.slice (some ⟨b, off, none⟩) rn rc] _ _ W g hg rfl (by omega) rfl (by intro x hx; simp at hx; subst hx; exact hraw.below hb) (by simp; omega)
    simpa using this
  clear hraw hbody hl1 hl2
  go_enter Try.func33, Try.ntmps33
  go_wp2
  refine wp_nm fun W0 hW0 => ?_
  have k1 : W0.heap[w.heap.size]? = some (.cells #[.slice (some ⟨b, off, none⟩) rn rc, .slice B bn bc] 60) := by rw [← hW0]; exact has_alloc (has_new w _) _
  have k2 : W0.heap[w.heap.size + 1]? = some (.cells #[.int .u8 0, .slice none 0 0, .slice none 0 0] 43) := by rw [← hW0]; exact has_new' _ _ _ (by simp)
  have hb0 : Below w.heap.size w W0 := by rw [← hW0]; exact kp_alloc (kp_alloc (Below.refl _ _) _) _
  have hs0 : W0.heap.size = w.heap.size + 2 := by rw [← hW0]; simp
  have G0 : GB w w.heap.size (.cells #[.slice (some ⟨b, off, none⟩) rn rc, .slice B bn bc] 60) W0 := ⟨hb0, k1⟩
  have KEEP : Hid (∀ W, GB w w.heap.size (.cells #[.slice (some ⟨b, off, none⟩) rn rc, .slice B bn bc] 60) W → (W.cell? ⟨w.heap.size, 0, none⟩ = some (.slice (some ⟨b, off, none⟩) rn rc) ∧ W.cell? ⟨w.heap.size, 1, none⟩ = some (.slice B bn bc) ∧ W.cell? ⟨b, off, none⟩ = some (.int .u8 (tag.toNat : Int))) ∧ GB w w.heap.size (.cells #[.slice (some ⟨b, off, none⟩) rn rc, .slice B bn bc] 60) W) :=
    fun W h => ⟨⟨(cells_2 h.h).1, (cells_2 h.h).2, kp_cell h.b htag⟩, h⟩
  have hlt := World.block_lt_of_cell? w _ htag
  have Hs0 := Lib.hid hs0
  clear hW0 hs0
  go_region_held3 (fun W => (W.cell? ⟨w.heap.size, 0, none⟩ = some (.slice (some ⟨b, off, none⟩) rn rc) ∧ W.cell? ⟨w.heap.size, 1, none⟩ = some (.slice B bn bc) ∧ W.cell? ⟨b, off, none⟩ = some (.int .u8 (tag.toNat : Int))) ∧ GB w w.heap.size (.cells #[.slice (some ⟨b, off, none⟩) rn rc, .slice B bn bc] 60) W)
    ((apply KEEP.out; repeat (with_reducible (first | assumption | refine GB.drew ?_ | refine GB.alloc ?_ _ | refine GB.call ?_ (by assumption) | refine GB.set ?_ (Nat.le_succ _) (Nat.ne_of_lt (Nat.lt_succ_self _))))))
    (first
      | (go_at_call 25; (with_reducible refine (JB.out _ _ (by (go_split_ands; exact GB.b (by assumption))) (by (repeat (with_reducible (first | assumption | exact has_new' _ _ _ (by simp) | refine has_drew ?_ | refine has_alloc ?_ _ | refine has_below ?_ (by assumption)))))).mono ?_); (rintro e X1 ⟨A1, n1, c1, rfl, hown1, hb1⟩; have B01 := Lib.hid (show Below W0.heap.size W0 X1 from (by repeat (with_reducible (first | exact Below.refl _ _ | refine kp_drew ?_ | refine kp_alloc ?_ _ | refine kp_call ?_ (by assumption))))); have hz1 := B01.out.size; have O1 := Lib.hid (hown1.lower (base' := w.heap.size + 2) (by simp [Hs0.out])); clear JB hown1))
      | (go_at_call 25; (with_reducible refine (JR.out _ _ (by (go_split_ands; exact GB.b (by assumption))) (by (repeat (with_reducible (first | assumption | exact has_new' _ _ _ (by simp) | refine has_drew ?_ | refine has_alloc ?_ _ | refine has_below ?_ (by assumption)))))).mono ?_); (rintro e X2 ⟨A2, n2, c2, rfl, hown2, hb2⟩; have O2 := Lib.hid (hown2.lower (base' := X1.heap.size) (by simp)); have k3 : X2.heap[w.heap.size + 1]? = some (.cells #[.int .u8 0, .slice none 0 0, .slice none 0 0] 43) := (by (repeat (with_reducible (first | assumption | exact has_new' _ _ _ (by simp) | refine has_drew ?_ | refine has_alloc ?_ _ | refine has_below ?_ (by assumption))))); have B12 : Below X1.heap.size X1 X2 := (by repeat (with_reducible (first | exact Below.refl _ _ | refine kp_drew ?_ | refine kp_alloc ?_ _ | refine kp_call ?_ (by assumption)))); obtain ⟨f0, f1, f2⟩ := free_3 k3; obtain ⟨e0, e1, e2⟩ := cells_3 k3; clear JR hown2)))
  all_goals
    have hs0 := Hs0.out
    have hz2 := B12.size
    go_wp2
    refine bodyPost_ret (results_c Try.results33 _ (LV.agg (set_3 k3) Try.underlying43 rfl (by kernel_rfl))) rfl ?_
    refine ⟨A1, n1, c1, A2, n2, c2, rfl, ?_, ?_, blk_ne O1.out O2.out (Nat.le_refl _), ?_⟩
    · exact ((O1.out.below B12 (Nat.le_refl _)).far (grown_3 _ _) (by omega)).lower (by omega)
    · exact (O2.out.far (grown_3 _ _) (by omega)).lower (by omega)
    · go_split_ands
      exact GB.b (by assumption)
end Go.Proofs.Ytamkbedbkjndgaa
