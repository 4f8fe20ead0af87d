/-
  der: a piece in memory of its own.
-/
import Derived.Test.YtomolfdcdmncoaaCb3
import Derived.Test.YtomolfdcdmncoaaCb1
import Derived.Deep.RegionHeld3
import Derived.Test.YtomolfdcdmncoaaCb4
import Derived.Test.YtomolfdcdmncoaaCb2
import Derived.Stop.RegionWithIn
import Derived.Test.YtomolfdcdmncoaaCb5
namespace Go.Proofs.Ytomolfdcdmncoaa
open Go.RowKit Go
set_option linter.unusedVariables false
set_option maxRecDepth 100000
/-- Join of a list that lies in a block. -/
theorem joinsH_any (l : List Row1) (m : Nat) (cs : Array Value) (t : TypeId) (mk : Nat × Nat) (w : World) (g : Nat) (hg : w.heap[g]? = some (.cells cs t mk)) (hl : l.length = m) (hm : m ≤ 1000000) (hcs : cs.toList = l.map Row1.val) (hR : ∀ x ∈ l, RB w x.1 x.2.1 x.2.2.2)
    (hlen : (l.flatMap (fun x => x.2.2.2)).length ≤ 140737488355328) :
    Calls Try.prog 73 #[.slice (some ⟨g, 0, none⟩) m m] w (Fresh w (l.flatMap (fun x => x.2.2.2))) := by
  have hj := joinN_list l m (by omega)
  rw [List.take_of_length_le (by omega)] at hj
  have hP : Parts w (some ⟨g, 0, none⟩) m (fun r => ((l.getD r Row1.nul).1, (l.getD r Row1.nul).2.1, (l.getD r Row1.nul).2.2.1)) (fun r => (l.getD r Row1.nul).2.2.2) := fun _ => by
    refine ⟨g, 0, rfl, block_lt hg, fun r hr => ?_⟩
    have hg2 : l.getD r Row1.nul = l[r]'(by omega) := by
      rw [List.getD_eq_getElem?_getD, List.getElem?_eq_getElem (by omega)]; rfl
    simp only [hg2]
    refine ⟨?_, hR _ (List.getElem_mem _)⟩
    rw [cell_of_row _ g (0 + r) cs t _ hg, ← Array.getElem?_toList, hcs, Nat.zero_add, List.getElem?_map, List.getElem?_eq_getElem (by omega)]
    rfl
  have := join_any (some ⟨g, 0, none⟩) m m _ _ _ hP hm (by rw [hj]; exact hlen)
  rw [hj] at this
  exact this
theorem OwnB.far {w w' : World} {base g n c : Nat} {A : Option Addr} {bs : List UInt8} (h : OwnB w base A n c bs) (hg : w.grownBy w' (some g)) (hlt : g < base) : OwnB w' base A n c bs :=
  h.kept hg (.inr (fun e => by have := (h.blk_lt e).1; omega))
theorem blk_ne {w w' : World} {base base' n c n' c' : Nat} {A A' : Option Addr} {bs bs' : List UInt8} (h : OwnB w base A n c bs) (h' : OwnB w' base' A' n' c' bs') (hlt : w.heap.size ≤ base') : blk A = none ∨ blk A ≠ blk A' := by
  cases e : blk A with
  | none => exact .inl rfl
  | some k =>
    right
    intro e2
    have h1 := (h.blk_lt e).2
    have h2 := (h'.blk_lt e2.symm).1
    omega
/-- What a piece becomes. -/
def ElemPost (w : World) (tag : UInt8) (body raw : List UInt8) (e : Ending) (w' : World) : Prop :=
  ∃ A1 n1 c1 A2 n2 c2, e = .returned (.agg #[.int .u8 (tag.toNat : Int), .slice A1 n1 c1, .slice A2 n2 c2]) ∧ OwnB w' w.heap.size A1 n1 c1 body ∧ OwnB w' w.heap.size A2 n2 c2 raw ∧ (blk A1 = none ∨ blk A1 ≠ blk A2) ∧ Below w.heap.size w w'
set_option maxHeartbeats 1000000 in
theorem elem_any (b off rn rc : Nat) (B : Option Addr) (bn bc : Nat) (tag : UInt8) (raw body : List UInt8) (w : World) (hraw : RB w (some ⟨b, off, none⟩) rn raw) (hrn : 0 < rn) (htag : w.cell? ⟨b, off, none⟩ = some (.int .u8 (tag.toNat : Int))) (hbody : RB w B bn body) (hrl : rn ≤ 1000000000) (hbl : bn ≤ 1000000000) :
    Calls Try.prog 72 #[.agg #[.slice (some ⟨b, off, none⟩) rn rc, .slice B bn bc]] w (ElemPost w tag body raw) := by
  have hl1 := hraw.1
  have hl2 := hbody.1
  have JB : Hid (∀ W g, Below w.heap.size w W → W.heap[g]? = some (.cells #[.slice B bn bc] 22) → Calls Try.prog 73 #[.slice (some ⟨g, 0, none⟩) 1 1] W (Fresh W body)) := fun W g hb hg => by
    have := joinsH_any [(B, bn, bc, body)] 1 #[.slice B bn bc] _ _ W g hg rfl (by omega) rfl (by intro x hx; simp at hx; subst hx; exact hbody.below hb) (by simp; omega)
    simpa using this
  have JR : Hid (∀ W g, Below w.heap.size w W → W.heap[g]? = some (.cells #[.slice (some ⟨b, off, none⟩) rn rc] 22) → Calls Try.prog 73 #[.slice (some ⟨g, 0, none⟩) 1 1] W (Fresh W raw)) := fun W g hb hg => by
    have := joinsH_any [(some ⟨b, off, none⟩, rn, rc, raw)] 1 #[.slice (some ⟨b, off, none⟩) rn rc] _ _ W g hg rfl (by omega) rfl (by intro x hx; simp at hx; subst hx; exact hraw.below hb) (by simp; omega)
    simpa using this
  clear hraw hbody hl1 hl2
  go_enter Try.func72, Try.ntmps72
  go_wp2
  refine wp_nm fun W0 hW0 => ?_
  have k1 : W0.heap[w.heap.size]? = some (.cells #[.slice (some ⟨b, off, none⟩) rn rc, .slice B bn bc] 100) := by rw [← hW0]; exact has_alloc (has_new w _) _
  have k2 : W0.heap[w.heap.size + 1]? = some (.cells #[.int .u8 0, .slice none 0 0, .slice none 0 0] 46) := by rw [← hW0]; exact has_new' _ _ _ (by simp)
  have hb0 : Below w.heap.size w W0 := by rw [← hW0]; exact kp_alloc (kp_alloc (Below.refl _ _) _) _
  have hs0 : W0.heap.size = w.heap.size + 2 := by rw [← hW0]; simp
  have G0 : GB w w.heap.size (.cells #[.slice (some ⟨b, off, none⟩) rn rc, .slice B bn bc] 100) W0 := ⟨hb0, k1⟩
  have KEEP : Hid (∀ W, GB w w.heap.size (.cells #[.slice (some ⟨b, off, none⟩) rn rc, .slice B bn bc] 100) W → (W.cell? ⟨w.heap.size, 0, none⟩ = some (.slice (some ⟨b, off, none⟩) rn rc) ∧ W.cell? ⟨w.heap.size, 1, none⟩ = some (.slice B bn bc) ∧ W.cell? ⟨b, off, none⟩ = some (.int .u8 (tag.toNat : Int))) ∧ GB w w.heap.size (.cells #[.slice (some ⟨b, off, none⟩) rn rc, .slice B bn bc] 100) W) :=
    fun W h => ⟨⟨(cells_2 h.h).1, (cells_2 h.h).2, kp_cell h.b htag⟩, h⟩
  have hlt := World.block_lt_of_cell? w _ htag
  have Hs0 := Lib.hid hs0
  clear hW0 hs0
  go_region_held3 (fun W => (W.cell? ⟨w.heap.size, 0, none⟩ = some (.slice (some ⟨b, off, none⟩) rn rc) ∧ W.cell? ⟨w.heap.size, 1, none⟩ = some (.slice B bn bc) ∧ W.cell? ⟨b, off, none⟩ = some (.int .u8 (tag.toNat : Int))) ∧ GB w w.heap.size (.cells #[.slice (some ⟨b, off, none⟩) rn rc, .slice B bn bc] 100) W)
    ((apply KEEP.out; repeat (with_reducible (first | assumption | refine GB.drew ?_ | refine GB.alloc ?_ _ | refine GB.call ?_ (by assumption) | refine GB.set ?_ (Nat.le_succ _) (Nat.ne_of_lt (Nat.lt_succ_self _))))))
    (first
      | (go_at_call 73; (with_reducible refine (JB.out _ _ (by (go_split_ands; exact GB.b (by assumption))) (by (repeat (with_reducible (first | assumption | exact has_new' _ _ _ (by simp) | refine has_drew ?_ | refine has_alloc ?_ _ | refine has_below ?_ (by assumption)))))).mono ?_); (rintro e X1 ⟨A1, n1, c1, rfl, hown1, hb1⟩; have B01 := Lib.hid (show Below W0.heap.size W0 X1 from (by repeat (with_reducible (first | exact Below.refl _ _ | refine kp_drew ?_ | refine kp_alloc ?_ _ | refine kp_call ?_ (by assumption))))); have hz1 := B01.out.size; have O1 := Lib.hid (hown1.lower (base' := w.heap.size + 2) (by simp [Hs0.out])); clear JB hown1))
      | (go_at_call 73; (with_reducible refine (JR.out _ _ (by (go_split_ands; exact GB.b (by assumption))) (by (repeat (with_reducible (first | assumption | exact has_new' _ _ _ (by simp) | refine has_drew ?_ | refine has_alloc ?_ _ | refine has_below ?_ (by assumption)))))).mono ?_); (rintro e X2 ⟨A2, n2, c2, rfl, hown2, hb2⟩; have O2 := Lib.hid (hown2.lower (base' := X1.heap.size) (by simp)); have k3 : X2.heap[w.heap.size + 1]? = some (.cells #[.int .u8 0, .slice none 0 0, .slice none 0 0] 46) := (by (repeat (with_reducible (first | assumption | exact has_new' _ _ _ (by simp) | refine has_drew ?_ | refine has_alloc ?_ _ | refine has_below ?_ (by assumption))))); have B12 : Below X1.heap.size X1 X2 := (by repeat (with_reducible (first | exact Below.refl _ _ | refine kp_drew ?_ | refine kp_alloc ?_ _ | refine kp_call ?_ (by assumption)))); obtain ⟨f0, f1, f2⟩ := free_3 k3; obtain ⟨e0, e1, e2⟩ := cells_3 k3; clear JR hown2)))
  all_goals
    have hs0 := Hs0.out
    have hz2 := B12.size
    go_wp2
    refine bodyPost_ret (results_c Try.results72 _ (LV.agg (set_3 k3) Try.underlying46 rfl (by kernel_rfl))) rfl ?_
    refine ⟨A1, n1, c1, A2, n2, c2, rfl, ?_, ?_, blk_ne O1.out O2.out (Nat.le_refl _), ?_⟩
    · exact ((O1.out.below B12 (Nat.le_refl _)).far (grown_3 _ _) (by omega)).lower (by omega)
    · exact (O2.out.far (grown_3 _ _) (by omega)).lower (by omega)
    · go_split_ands
      exact GB.b (by assumption)
end Go.Proofs.Ytomolfdcdmncoaa
namespace Go.Proofs.Ytomolfdcdmncoaa
open Go.RowKit Go
set_option linter.unusedVariables false
set_option maxRecDepth 100000
def elZ : Value := .agg #[.int .u8 0, .slice none 0 0, .slice none 0 0]
/-- What Parse answers. -/
def ParsePost (w : World) (bs : List UInt8) (e : Ending) (w' : World) : Prop :=
  (match splitQ bs with
    | none => e = .returned (.tuple #[elZ, .slice none 0 0, .int .i64 9])
    | some (s, t) => ∃ A1 n1 c1 A2 n2 c2 A3 n3 c3, e = .returned (.tuple #[.agg #[.int .u8 ((bs.getD 0 0).toNat : Int), .slice A1 n1 c1, .slice A2 n2 c2], .slice A3 n3 c3, .int .i64 0]) ∧
        OwnB w' w.heap.size A1 n1 c1 ((bs.take t).drop s) ∧ OwnB w' w.heap.size A2 n2 c2 (bs.take t) ∧ OwnB w' w.heap.size A3 n3 c3 (bs.drop t) ∧
        (blk A1 = none ∨ blk A1 ≠ blk A2) ∧ (blk A1 = none ∨ blk A1 ≠ blk A3) ∧ (blk A2 = none ∨ blk A2 ≠ blk A3)) ∧ Below w.heap.size w w'
theorem parse_no (A : Option Addr) (n c : Nat) (bs : List UInt8) (w : World) (hR : RB w A n bs) (hnc : n ≤ c) (hn : n ≤ 140737488355328) (h : splitQ bs = none) :
    Calls Try.prog 60 #[.slice A n c] w (ParsePost w bs) := by
  have C : Hid (∀ W, Below w.heap.size w W → Calls Try.prog 71 #[.slice A n c] W fun e w' => (∃ s t : Int, e = .returned (.tuple #[.int .i64 s, .int .i64 t, .bool false])) ∧ ∃ k, w' = W.drewN k) := fun W hb => (split_any A n c bs W (hR.below hb) hnc hn).mono fun e w' hp => by
    unfold SplitPost at hp; rw [h] at hp; exact hp
  have H := Lib.hid h
  clear h hR
  go_enter Try.func60, Try.ntmps60
  go_wp2_with fail
  refine (C.out _ (kp_alloc (Below.refl _ _) _)).mono ?_
  rintro e w' ⟨⟨s, t, rfl⟩, k, rfl⟩
  have k3 : ((w.alloc (.cells #[.int .u8 0, .slice none 0 0, .slice none 0 0] 46)).drewN k).heap[w.heap.size]? = some (.cells #[.int .u8 0, .slice none 0 0, .slice none 0 0] 46) := has_new w _
  have hb3 : Below w.heap.size w ((w.alloc (.cells #[.int .u8 0, .slice none 0 0, .slice none 0 0] 46)).drewN k) := kp_drewN (kp_alloc (Below.refl _ _) _) k
  generalize ((w.alloc (.cells #[.int .u8 0, .slice none 0 0, .slice none 0 0] 46)).drewN k) = W3 at *
  obtain ⟨f0, f1, f2⟩ := free_3 k3
  obtain ⟨e0, e1, e2⟩ := cells_3 k3
  go_wp2
  refine bodyPost_ret (results_ctt Try.results60 _ (LV.agg (set_3 k3) Try.underlying46 rfl (by kernel_rfl))) rfl ?_
  unfold ParsePost
  rw [H.out]
  exact ⟨rfl, below_3 hb3 (Nat.le_refl _)⟩
set_option maxHeartbeats 1000000 in
theorem parse_yes (b off n c : Nat) (tag : UInt8) (bs : List UInt8) (w : World) (hR : RB w (some ⟨b, off, none⟩) n bs) (htag : w.cell? ⟨b, off, none⟩ = some (.int .u8 (tag.toNat : Int))) (hnc : n ≤ c) (hn : n ≤ 1000000000) (hc : c ≤ 9223372036854775807) (s t : Nat) (h : splitQ bs = some (s, t)) (h0 : bs.getD 0 0 = tag) :
    Calls Try.prog 60 #[.slice (some ⟨b, off, none⟩) n c] w (ParsePost w bs) := by
  obtain ⟨hs2, hst, htn⟩ := splitQ_le h
  rw [hR.1] at htn
  have C : Hid (∀ W, Below w.heap.size w W → Calls Try.prog 71 #[.slice (some ⟨b, off, none⟩) n c] W fun e w' => e = .returned (.tuple #[.int .i64 (s : Int), .int .i64 (t : Int), .bool true]) ∧ ∃ k, w' = W.drewN k) := fun W hb => (split_any _ n c bs W (hR.below hb) hnc (by omega)).mono fun e w' hp => by
    unfold SplitPost at hp; rw [h] at hp; exact hp
  have H := Lib.hid h
  have H0 := Lib.hid h0
  obtain ⟨SA, hSA⟩ : ∃ SA : Option Addr, (if c = s then some ⟨b, off, none⟩ else some ⟨b, off + s, none⟩) = SA := ⟨_, rfl⟩
  obtain ⟨TA, hTA⟩ : ∃ TA : Option Addr, (if c = t then some ⟨b, off, none⟩ else some ⟨b, off + t, none⟩) = TA := ⟨_, rfl⟩
  have hRS := rb_cut (rb_take hR htn) (show t ≤ c by omega) hst
  have hRT := rb_cut hR hnc htn
  rw [hSA] at hRS
  rw [hTA] at hRT
  have CE : Hid (∀ W, Below w.heap.size w W → Calls Try.prog 72 #[.agg #[.slice (some ⟨b, off, none⟩) t c, .slice SA (t - s) (c - s)]] W (ElemPost W tag ((bs.take t).drop s) (bs.take t))) := fun W hb =>
    elem_any b off t c _ (t - s) (c - s) tag (bs.take t) ((bs.take t).drop s) W ((rb_take hR htn).below hb) (by omega) (kp_cell hb htag) (hRS.below hb) (by omega) (by omega)
  have JR : Hid (∀ W g, Below w.heap.size w W → W.heap[g]? = some (.cells #[.slice TA (n - t) (c - t)] 22) → Calls Try.prog 73 #[.slice (some ⟨g, 0, none⟩) 1 1] W (Fresh W (bs.drop t))) := fun W g hb hg => by
    have := joinsH_any [(_, n - t, c - t, bs.drop t)] 1 #[.slice TA (n - t) (c - t)] _ _ W g hg rfl (by omega) rfl (by intro x hx; simp at hx; subst hx; exact hRT.below hb) (by have := hRT.1; simp at this ⊢; omega)
    simpa using this
  clear h h0 hR htag hRS hRT
  go_enter Try.func60, Try.ntmps60
  go_wp2_with fail
  refine (C.out _ (kp_alloc (Below.refl _ _) _)).mono ?_
  rintro e w' ⟨rfl, k, rfl⟩
  have k1 : ((w.alloc (.cells #[.int .u8 0, .slice none 0 0, .slice none 0 0] 46)).drewN k).heap[w.heap.size]? = some (.cells #[.int .u8 0, .slice none 0 0, .slice none 0 0] 46) := has_new w _
  have hb1 : Below w.heap.size w ((w.alloc (.cells #[.int .u8 0, .slice none 0 0, .slice none 0 0] 46)).drewN k) := kp_drewN (kp_alloc (Below.refl _ _) _) k
  have hs1 : ((w.alloc (.cells #[.int .u8 0, .slice none 0 0, .slice none 0 0] 46)).drewN k).heap.size = w.heap.size + 1 := by show (w.alloc _).heap.size = _; simp
  generalize ((w.alloc (.cells #[.int .u8 0, .slice none 0 0, .slice none 0 0] 46)).drewN k) = W1 at *
  have i1 : (0 : Int) ≤ (s : Int) := by omega
  have i2 : (s : Int) ≤ (t : Int) := by omega
  have i3 : (t : Int) ≤ (n : Int) := by omega
  have i4 : (n : Int) ≤ (c : Int) := by omega
  have i5 : (t : Int) ≤ (c : Int) := by omega
  have G1 : GB w w.heap.size (.cells #[.int .u8 0, .slice none 0 0, .slice none 0 0] 46) W1 := ⟨hb1, k1⟩
  have HS1 := Lib.hid hs1
  clear hs1
  go_wp2
  have hne : w.heap.size ≠ W1.heap.size := by rw [HS1.out]; omega
  have hle : w.heap.size ≤ W1.heap.size := by rw [HS1.out]; omega
  go_region_held3 (fun W => GB w w.heap.size (.cells #[.int .u8 0, .slice none 0 0, .slice none 0 0] 46) W)
    ((repeat (with_reducible (first | assumption | refine GB.drew ?_ | refine GB.alloc ?_ _ | refine GB.set ?_ (by assumption) (by assumption)))))
    (fail)
  go_wp2
  refine wp_nm fun W2 hW2 => ?_
  have k2 : W2.heap[w.heap.size]? = some (.cells #[.int .u8 0, .slice none 0 0, .slice none 0 0] 46) := by go_split_ands; rw [← hW2]; exact GB.h (by assumption)
  have k8 : W2.heap[W1.heap.size]? = some (.cells #[.slice (some ⟨b, off, none⟩) t c, .slice SA (t - s) (c - s)] 100) := by rw [← hW2]; exact has_new' W1 _ _ rfl
  have hb2 : Below w.heap.size w W2 := by go_split_ands; rw [← hW2]; exact GB.b (by assumption)
  have hs2 : W2.heap.size = W1.heap.size + 1 := by rw [← hW2]; simp
  have G2 : GB w W1.heap.size (.cells #[.slice (some ⟨b, off, none⟩) t c, .slice SA (t - s) (c - s)] 100) W2 := ⟨hb2, k8⟩
  have KEEP : Hid (∀ W, GB w W1.heap.size (.cells #[.slice (some ⟨b, off, none⟩) t c, .slice SA (t - s) (c - s)] 100) W → (W.cell? ⟨W1.heap.size, 0, none⟩ = some (.slice (some ⟨b, off, none⟩) t c) ∧ W.cell? ⟨W1.heap.size, 1, none⟩ = some (.slice SA (t - s) (c - s))) ∧ GB w W1.heap.size (.cells #[.slice (some ⟨b, off, none⟩) t c, .slice SA (t - s) (c - s)] 100) W) :=
    fun W h => ⟨cells_2 h.h, h⟩
  have HB2 := Lib.hid hb2
  have HS2 := Lib.hid hs2
  have hne2 : W1.heap.size ≠ w.heap.size := fun e => hne e.symm
  clear hW2 hs2 hb1 hb2 k1 G1 k8
  go_region_held3 (fun W => (W.cell? ⟨W1.heap.size, 0, none⟩ = some (.slice (some ⟨b, off, none⟩) t c) ∧ W.cell? ⟨W1.heap.size, 1, none⟩ = some (.slice SA (t - s) (c - s))) ∧ GB w W1.heap.size (.cells #[.slice (some ⟨b, off, none⟩) t c, .slice SA (t - s) (c - s)] 100) W)
    ((apply KEEP.out; repeat (with_reducible (first | assumption | refine GB.drew ?_ | refine GB.alloc ?_ _ | refine GB.call ?_ (by assumption) | refine GB.set ?_ (Nat.le_refl _) (by assumption)))))
    (first
      | (go_at_call 72; (with_reducible refine (CE.out _ (by (go_split_ands; exact GB.b (by assumption)))).mono ?_); (rintro e X1 ⟨A1, n1, c1, A2, n2, c2, rfl, hown1, hown2, hneq, hb1⟩; have B01 := Lib.hid (show Below W2.heap.size W2 X1 from (by repeat (with_reducible (first | exact Below.refl _ _ | refine kp_drew ?_ | refine kp_alloc ?_ _ | refine kp_call ?_ (by assumption))))); have hz1 := B01.out.size; have O1 := Lib.hid (hown1.lower (base' := W1.heap.size + 1) (by simp [HS2.out])); have O2 := Lib.hid (hown2.lower (base' := W1.heap.size + 1) (by simp [HS2.out])); have HNE := Lib.hid hneq; clear CE hown1 hown2 hneq))
      | (go_at_call 73; (with_reducible refine (JR.out _ _ (by (go_split_ands; exact GB.b (by assumption))) (by (repeat (with_reducible (first | assumption | exact has_new' _ _ _ (by simp) | refine has_drew ?_ | refine has_alloc ?_ _ | refine has_below ?_ (by assumption)))))).mono ?_); (rintro e X2 ⟨A3, n3, c3, rfl, hown3, hb3⟩; have O3 := Lib.hid (hown3.lower (base' := X1.heap.size) (by simp)); have k3 : X2.heap[w.heap.size]? = some (.cells #[.int .u8 0, .slice none 0 0, .slice none 0 0] 46) := (by (repeat (with_reducible (first | assumption | exact has_new' _ _ _ (by simp) | refine has_drew ?_ | refine has_alloc ?_ _ | refine has_below ?_ (by assumption))))); have B12 : Below X1.heap.size X1 X2 := (by repeat (with_reducible (first | exact Below.refl _ _ | refine kp_drew ?_ | refine kp_alloc ?_ _ | refine kp_call ?_ (by assumption)))); obtain ⟨f0, f1, f2⟩ := free_3 k3; obtain ⟨e0, e1, e2⟩ := cells_3 k3; clear JR hown3)))
  all_goals
    have hs0 := HS2.out
    have hz2 := B12.size
    go_wp2
    refine bodyPost_ret (results_ctt Try.results60 _ (LV.agg (set_3 k3) Try.underlying46 rfl (by kernel_rfl))) rfl ?_
    unfold ParsePost
    rw [H.out, H0.out]
    refine ⟨⟨A1, n1, c1, A2, n2, c2, A3, n3, c3, rfl, ?_, ?_, ?_, HNE.out, blk_ne O1.out O3.out (Nat.le_refl _), blk_ne O2.out O3.out (Nat.le_refl _)⟩, ?_⟩
    · exact ((O1.out.below B12 (Nat.le_refl _)).far (grown_3 _ _) (by omega)).lower (by omega)
    · exact ((O2.out.below B12 (Nat.le_refl _)).far (grown_3 _ _) (by omega)).lower (by omega)
    · exact (O3.out.far (grown_3 _ _) (by omega)).lower (by omega)
    · go_split_ands
      exact GB.b (by assumption)
theorem parse_any (A : Option Addr) (n c : Nat) (bs : List UInt8) (w : World) (hR : RB w A n bs) (hnc : n ≤ c) (hn : n ≤ 1000000000) (hc : c ≤ 9223372036854775807) :
    Calls Try.prog 60 #[.slice A n c] w (ParsePost w bs) := by
  cases h : splitQ bs with
  | none => exact parse_no A n c bs w hR hnc (by omega) h
  | some p =>
    obtain ⟨s, t⟩ := p
    have hle := splitQ_le h
    have hl := hR.1
    obtain ⟨b, off, d, rfl, _, hd, c0⟩ := hR.at_ (k := 0) (by omega)
    exact parse_yes b off n c d bs w hR c0 hnc hn hc s t h (by rw [List.getD_eq_getElem?_getD, hd]; rfl)
end Go.Proofs.Ytomolfdcdmncoaa
namespace Go.Proofs.Ytomolfdcdmncoaa
open Go.RowKit Go
set_option linter.unusedVariables false
set_option maxRecDepth 100000
attribute [local go_sem] Oper.semAt_some
/-- The elements of which bytes consist: each whole, and its body. -/
def allQ (bs : List UInt8) : Option (List (List UInt8 × List UInt8)) :=
  if h : bs = [] then some [] else match hq : splitQ bs with
    | none => none
    | some (s, t) => (allQ (bs.drop t)).map ((bs.take t, (bs.take t).drop s) :: ·)
termination_by bs.length
decreasing_by
  have := splitQ_le hq
  rw [List.length_drop]
  omega
theorem allQ_nil : allQ [] = some [] := by unfold allQ; rfl
theorem allQ_none {bs : List UInt8} (hn : bs ≠ []) (h : splitQ bs = none) : allQ bs = none := by
  unfold allQ
  rw [dif_neg hn]
  split
  · rfl
  · rename_i hq; rw [h] at hq; cases hq
theorem allQ_some {bs : List UInt8} {s t : Nat} (h : splitQ bs = some (s, t)) : allQ bs = (allQ (bs.drop t)).map ((bs.take t, (bs.take t).drop s) :: ·) := by
  have hn : bs ≠ [] := by rintro rfl; cases h
  conv => lhs; unfold allQ
  rw [dif_neg hn]
  split
  · rename_i hq; rw [h] at hq; cases hq
  · rename_i s' t' hq
    rw [h] at hq
    cases hq
    rfl
/-- A piece, as it lies in memory: its bytes' slice, its body's slice, and what they read as. -/
structure PV where
  ra : Option Addr
  rn : Nat
  rc : Nat
  ba : Option Addr
  bn : Nat
  bc : Nat
  raw : List UInt8
  body : List UInt8
def PV.cells (p : PV) : List Value := [.slice p.ra p.rn p.rc, .slice p.ba p.bn p.bc]
def PV.val (p : PV) : Value := .agg #[.slice p.ra p.rn p.rc, .slice p.ba p.bn p.bc]
structure PV.Ok (w : World) (m : Nat) (p : PV) : Prop where
  r : RB w p.ra p.rn p.raw
  b : RB w p.ba p.bn p.body
  two : 2 ≤ p.rn
  le : p.rn ≤ m
  ble : p.bn ≤ p.rn
  cle : p.bn ≤ p.bc
  cc : p.bc ≤ 9223372036854775807
def pvEnc : Option PV → Array Value
  | some p => #[p.val, .bool true]
  | none => #[.agg #[.slice none 0 0, .slice none 0 0], .bool false]
def boxLen (B : Nat) (w : World) : Nat := match w.cell? ⟨B, 0, none⟩ with
  | some (.slice _ k _) => k
  | _ => 0
theorem boxLen_of {w : World} {B : Nat} {A : Option Addr} {n c : Nat} {t : TypeId} (h : w.heap[B]? = some (.cells #[.slice A n c] t)) : boxLen B w = n := by
  unfold boxLen
  rw [cells_1 h]
/-- What a round says, by its answer. -/
def YZ (Y Z : List (Option PV) → World → Prop) (xs : List (Option PV)) (Bx : Nat) (wr : World) (r : Bool) (W' : World) : Prop := (r = true → Y xs W' ∧ W'.heap[Bx]? = wr.heap[Bx]?) ∧ (r = false → Z xs W')
theorem pieces_any (A : Option Addr) (n c : Nat) (w : World) :
    Calls Try.prog 57 #[.slice A n c] w fun e w' => e = .returned (.func (.func 70) #[] #[.pointer (some ⟨w.heap.size, 0, none⟩)]) ∧ w' = w.alloc (.cells #[.slice A n c] 22) := by
  go_enter Try.func57, Try.ntmps57
  go_wp2
  go_ret
  exact ⟨rfl, rfl⟩
set_option maxHeartbeats 1000000 in
/-- The iterator: it hands out the pieces, and at last, where bytes are left that begin with none, says so. -/
theorem pieces1_in (n0 c0 D Bx : Nat) (A0 : Option Addr) (bs : List UInt8) (w0 : World) (hR0 : RB w0 A0 n0 bs) (hnc : n0 ≤ c0) (hn : n0 ≤ 1000000000) (hc : c0 ≤ 9223372036854775807) (hBx : w0.heap.size ≤ Bx) (hBD : Bx < D)
    (I : List (Option PV) → World → Prop) (hIb : ∀ pre W, I pre W → Below w0.heap.size w0 W)
    (hIs : ∀ pre W u, I pre W → I pre (W.setCell ⟨Bx, 0, none⟩ u)) (hId : ∀ pre W k, I pre W → I pre (W.drewN k)) (hI0 : ∀ pre W, I pre W → I pre W.drew) :
    IterOf Try.prog 4 D 70 #[.pointer (some ⟨Bx, 0, none⟩)] pvEnc (· = Bx) (fun pre W => I pre W ∧ (pre = [] → W.heap[Bx]? = some (.cells #[.slice A0 n0 c0] 22)))
      (fun xs => (∃ ps : List PV, xs = ps.map some ∧ (∀ p ∈ ps, p.Ok w0 n0) ∧ allQ bs = some (ps.map fun p => (p.raw, p.body))) ∨ (∃ ps : List PV, xs = ps.map some ++ [none])) (fun pre => (∃ ps : List PV, pre = ps.map some ++ [none]) → allQ bs = none) (n0 + 1) := by
  intro Y Z hYI hYs hY hYb W1 hY0
  have hh0 := (hYI _ _ hY0).2 rfl
  refine callsIn_of_wp Try.func70 rfl trivial ?_ rfl
  simp only [Try.ntmps70, List.size_toArray, List.length_cons, List.length_nil, Nat.reduceAdd, Nat.reduceSub, Array.replicate_succ, Array.replicate_zero, List.push_toArray, List.append_toArray, List.nil_append, List.cons_append]
  gi_wp2
  gi_loopw [3] (fun u wr => ∃ (ps : List PV) (A1 : Option Addr) (n1 c1 : Nat) (rest : List UInt8), Y (ps.map some) wr ∧ wr.heap[Bx]? = some (.cells #[.slice A1 n1 c1] 22) ∧ RB w0 A1 n1 rest ∧ n1 ≤ c1 ∧ c1 ≤ c0 ∧ Hid (n1 + ps.length ≤ n0) ∧ Hid (∀ p ∈ ps, p.Ok w0 n0) ∧ Hid (allQ bs = (allQ rest).map ((ps.map fun p => (p.raw, p.body)) ++ ·)))
    (fun _ wr => boxLen Bx wr)
  case atStart => exact ⟨[], A0, n0, c0, bs, hY0, hh0, hR0, hnc, Nat.le_refl _, Nat.le_refl _, (by intro p hp; cases hp), by unfold Hid; cases allQ bs <;> simp⟩
  case round =>
    obtain ⟨ps, A1, n1, c1, rest, hJ, hbx, hR1, hnc1, hcc1, HB, HO, HX⟩ := hrel
    have hcell := cells_1 hbx
    have hmeas := Lib.hid (boxLen_of hbx)
    by_cases h0 : 0 < n1
    · obtain ⟨b, off, d, rfl, hb, hd, hcd⟩ := hR1.at_ (k := 0) h0
      clear hd hcd
      have hne : rest ≠ [] := by rintro rfl; have := hR1.1; simp at this; omega
      have hB := HB.out
      have hJb := hIb _ _ (hYI _ _ hJ).1
      have C := fun W (hw : Below w0.heap.size w0 W) => split_any (some ⟨b, off, none⟩) n1 c1 rest W (hR1.below hw) hnc1 (by omega)
      have hlen : (ps.map some).length < n0 + 1 := by simp; omega
      cases hq : splitQ rest with
      | none =>
        have HN : Hid (allQ bs = none) := by unfold Hid; rw [HX.out, allQ_none hne hq]; rfl
        have C2 : Hid (Calls Try.prog 71 #[.slice (some ⟨b, off, none⟩) n1 c1] wr fun e w' => (∃ s t : Int, e = .returned (.tuple #[.int .i64 s, .int .i64 t, .bool false])) ∧ ∃ k, w' = wr.drewN k) := (C wr hJb).mono fun e w' hp => by
          unfold SplitPost at hp; rw [hq] at hp; exact hp
        have hJd := fun k => hYs _ wr (wr.drewN k) hJ ⟨hId _ _ _ (hYI _ _ hJ).1, fun e => (hYI _ _ hJ).2 e⟩ rfl rfl
        have HY := Lib.hid (fun k => hY (ps.map some) none (wr.drewN k) (hJd k) hlen)
        clear C hq hh0 hcell
        have hcell := cells_1 hbx
        gi_wp2_with (refine ⟨trivial, ?_⟩; gi_at_call 71; refine (callsIn_wide.2 C2.out).mono ?_; rintro e w' ⟨⟨s, t, rfl⟩, k, rfl⟩; obtain ⟨fn, tmps, assign, body, hy, hR⟩ := HY.out k; dsimp only [pvEnc] at hy)
        refine hR.mono ?_
        rintro e W3 (⟨rfl, hJ3, hk3⟩ | ⟨rfl, hJx3⟩)
        · gi_wp2
          refine bodyPost_ret (results_none rfl _ _ _) rfl ?_
          exact ⟨⟨_, rfl⟩, .inl ⟨_, .inr ⟨ps, rfl⟩, hJ3⟩⟩
        · gi_wp2
          refine bodyPost_ret (results_none rfl _ _ _) rfl ?_
          exact ⟨⟨_, rfl⟩, .inr ⟨_, fun _ => HN.out, hJx3⟩⟩
      | some p =>
        obtain ⟨s, t⟩ := p
        obtain ⟨hs2, hst, htn⟩ := splitQ_le hq
        rw [hR1.1] at htn
        obtain ⟨SA, hSA⟩ : ∃ SA : Option Addr, (if c1 = s then some ⟨b, off, none⟩ else some ⟨b, off + s, none⟩) = SA := ⟨_, rfl⟩
        obtain ⟨TA, hTA⟩ : ∃ TA : Option Addr, (if c1 = t then some ⟨b, off, none⟩ else some ⟨b, off + t, none⟩) = TA := ⟨_, rfl⟩
        have hRS := rb_cut (rb_take hR1 htn) (show t ≤ c1 by omega) hst
        have hRT := rb_cut hR1 hnc1 htn
        rw [hSA] at hRS
        rw [hTA] at hRT
        have HRT := Lib.hid hRT
        have HP : Hid (PV.Ok w0 n0 ⟨some ⟨b, off, none⟩, t, c1, SA, t - s, c1 - s, rest.take t, (rest.take t).drop s⟩) := ⟨rb_take hR1 htn, hRS, by show 2 ≤ t; omega, by show t ≤ n0; omega, by show t - s ≤ t; omega, by show t - s ≤ c1 - s; omega, by show c1 - s ≤ 9223372036854775807; omega⟩
        have HN : Hid (allQ bs = (allQ (rest.drop t)).map (((ps ++ [⟨some ⟨b, off, none⟩, t, c1, SA, t - s, c1 - s, rest.take t, (rest.take t).drop s⟩] : List PV).map fun p => (p.raw, p.body)) ++ ·)) := by
          unfold Hid
          rw [HX.out, allQ_some hq, Option.map_map]
          congr 1
          funext l
          simp
        have C2 : Hid (Calls Try.prog 71 #[.slice (some ⟨b, off, none⟩) n1 c1] wr fun e w' => e = .returned (.tuple #[.int .i64 (s : Int), .int .i64 (t : Int), .bool true]) ∧ ∃ k, w' = wr.drewN k) := (C wr hJb).mono fun e w' hp => by
          unfold SplitPost at hp; rw [hq] at hp; exact hp
        have hJd := fun k => hYs _ wr (wr.drewN k) hJ ⟨hId _ _ _ (hYI _ _ hJ).1, fun e => (hYI _ _ hJ).2 e⟩ rfl rfl
        have i1 : (0 : Int) ≤ (s : Int) := by omega
        have i2 : (s : Int) ≤ (t : Int) := by omega
        have i3 : (t : Int) ≤ (n1 : Int) := by omega
        have i4 : (n1 : Int) ≤ (c1 : Int) := by omega
        have i5 : (t : Int) ≤ (c1 : Int) := by omega
        have HY := Lib.hid (fun k => hY (ps.map some) (some ⟨some ⟨b, off, none⟩, t, c1, SA, t - s, c1 - s, rest.take t, (rest.take t).drop s⟩) (wr.drewN k) (hJd k) hlen)
        clear C hq hh0 hcell hRS hRT hJd
        have hcell := cells_1 hbx
        gi_wp2_with (refine ⟨trivial, ?_⟩; gi_at_call 71; refine (callsIn_wide.2 C2.out).mono ?_; rintro e w' ⟨rfl, k, rfl⟩; have hck : (wr.drewN k).cell? ⟨Bx, 0, none⟩ = some (.slice (some ⟨b, off, none⟩) n1 c1) := hcell; obtain ⟨fn, tmps, assign, body, hy, hR⟩ := HY.out (k + 1); dsimp only [pvEnc, PV.val] at hy; replace hR := hR.mono (R' := fun e W' => ∃ r : Bool, e = .returned (.bool r) ∧ YZ Y Z (ps.map some ++ [some ⟨some ⟨b, off, none⟩, t, c1, SA, t - s, c1 - s, rest.take t, (rest.take t).drop s⟩]) Bx wr r W') (fun e W' h => by
          rcases h with ⟨he, h1, h2⟩ | ⟨he, h1⟩
          · exact ⟨true, he, fun _ => ⟨h1, h2 Bx rfl⟩, fun h => by cases h⟩
          · exact ⟨false, he, fun h => (by cases h), fun _ => h1⟩))
        gi_region_with (refine hR.mono ?_; rintro e W3 ⟨r, rfl, hp⟩)
        all_goals
          cases r with
          | false =>
            have hZ := hp.2 rfl
            clear hp
            gi_wp2
            refine bodyPost_ret (results_none rfl _ _ _) rfl ?_
            exact ⟨⟨_, rfl⟩, .inr ⟨_, fun ⟨ps', e'⟩ => by
              exfalso
              have := congrArg List.getLast? e'
              simp at this, hZ⟩⟩
          | true =>
            obtain ⟨hJ3, hk3⟩ := hp.1 rfl
            have hbx3 := hk3.trans hbx
            have hcell3 := cells_1 hbx3
            have hfree3 := free_1 hbx3
            have hset3 := set_1 (v0 := .slice TA (n1 - t) (c1 - t)) hbx3
            have hJ4 := hYs _ W3 (W3.setCell ⟨Bx, 0, none⟩ (.slice TA (n1 - t) (c1 - t))) hJ3 ⟨hIs _ _ _ (hYI _ _ hJ3).1, fun e => by simp at e⟩ (heap_set_far _ _ _ _ _ (by omega)) (heap_set_far _ _ _ _ _ (by omega))
            clear hp hcell
            gi_wp2
            go_roundw
            case rel => exact ⟨ps ++ [⟨some ⟨b, off, none⟩, t, c1, SA, t - s, c1 - s, rest.take t, (rest.take t).drop s⟩], TA, n1 - t, c1 - t, rest.drop t, by simpa using hJ4, hset3, HRT.out, by omega, by omega, by have := HB.out; unfold Hid; simp; omega, by
                intro p hp
                rcases List.mem_append.1 hp with hp | hp
                · exact HO.out p hp
                · rw [List.mem_singleton.1 hp]; exact HP.out, HN⟩
            case measure => rw [boxLen_of hset3, hmeas.out]; omega
    · have hr0 : rest = [] := List.length_eq_zero_iff.1 (by have := hR1.1; omega)
      subst hr0
      obtain rfl : n1 = 0 := by omega
      have HN : Hid (allQ bs = some (ps.map fun p => (p.raw, p.body))) := by unfold Hid; rw [HX.out, allQ_nil]; simp
      gi_wp2
      go_end0
      exact ⟨⟨_, rfl⟩, .inl ⟨_, .inl ⟨ps, rfl, HO.out, HN.out⟩, hJ⟩⟩
end Go.Proofs.Ytomolfdcdmncoaa
namespace Go.Proofs.Ytomolfdcdmncoaa
open Go.RowKit Go
set_option linter.unusedVariables false
set_option maxRecDepth 100000
attribute [local go_sem] Oper.semAt_some
theorem pv_row : RowT 96 100 2 48 (.agg #[.slice none 0 0, .slice none 0 0]) := ⟨Try.underlying96, by kernel_rfl, rfl, by decide⟩
theorem putObj_grown (W : World) (b : Nat) (o : Obj) : W.grownBy (W.putObj b o) (some b) := grownBy_putObj' W b o
/-- The state of the loop: what lies in the four blocks that the call made. -/
structure LI (w : World) (n0 : Nat) (pre : List (Option PV)) (W : World) : Prop where
  ex : ∃ (ps : List PV) (A : Option Addr) (m c : Nat), pre = ps.map some ∧ W.heap[w.heap.size + 2]? = some (.cells #[.slice A m c] 96) ∧ OwnR W (w.heap.size + 6) 100 2 A m c (ps.flatMap PV.cells)
  h0 : W.heap[w.heap.size]? = some (.cells #[.slice none 0 0] 96)
  h1 : W.heap[w.heap.size + 1]? = some (.cells #[.int .i64 0] 36)
  b : Below w.heap.size w W
theorem LI.grown {w : World} {n0 : Nat} {pre : List (Option PV)} {W W' : World} {b : Nat} (h : LI w n0 pre W) (hg : W.grownBy W' (some b)) (h3 : w.heap.size + 3 ≤ b) (h6 : b < w.heap.size + 6) : LI w n0 pre W' := by
  obtain ⟨⟨ps, A, m, c, e, h2, ho⟩, ha, hb, hbl⟩ := h
  have hk : ∀ j o, W.heap[j]? = some o → j ≠ b → W'.heap[j]? = some o := fun j o hj hne => (hg.block j (block_lt hj) (fun e => hne (by injection e))).trans hj
  exact ⟨⟨ps, A, m, c, e, hk _ _ h2 (by omega), ho.kept hg (.inr (fun e => by have := (ho.blk_lt e).1; omega))⟩, hk _ _ ha (by omega), hk _ _ hb (by omega), hbl.grown hg hbl.size (fun g hg => by injection hg with hg; omega)⟩
theorem LI.drewN {w : World} {n0 : Nat} {pre : List (Option PV)} {W : World} (h : LI w n0 pre W) (k : Nat) : LI w n0 pre (W.drewN k) := ⟨h.ex, h.h0, h.h1, kp_drewN h.b k⟩
theorem LI.drew {w : World} {n0 : Nat} {pre : List (Option PV)} {W : World} (h : LI w n0 pre W) : LI w n0 pre W.drew := ⟨h.ex, h.h0, h.h1, h.b.drew⟩
theorem LI.alloc {w : World} {n0 : Nat} {pre : List (Option PV)} {W : World} (h : LI w n0 pre W) (o : Obj) : LI w n0 pre (W.alloc o) := by
  obtain ⟨⟨ps, A, m, c, e, h2, ho⟩, ha, hb, hbl⟩ := h
  exact ⟨⟨ps, A, m, c, e, has_alloc h2 _, ho.alloc _⟩, has_alloc ha _, has_alloc hb _, kp_alloc hbl _⟩
/-- The state behind a round that gave up. -/
structure LX (w : World) (pre : List (Option PV)) (W : World) : Prop where
  ex : ∃ ps : List PV, pre = ps.map some ++ [none]
  h0 : W.heap[w.heap.size]? = some (.cells #[.slice none 0 0] 96)
  h1 : W.heap[w.heap.size + 1]? = some (.cells #[.int .i64 9] 36)
  b : Below w.heap.size w W
theorem LX.grown {w : World} {pre : List (Option PV)} {W W' : World} {b : Nat} (h : LX w pre W) (hg : W.grownBy W' (some b)) (h3 : w.heap.size + 3 ≤ b) : LX w pre W' := by
  obtain ⟨e, ha, hb, hbl⟩ := h
  have hk : ∀ j o, W.heap[j]? = some o → j ≠ b → W'.heap[j]? = some o := fun j o hj hne => (hg.block j (block_lt hj) (fun e => hne (by injection e))).trans hj
  exact ⟨e, hk _ _ ha (by omega), hk _ _ hb (by omega), hbl.grown hg hbl.size (fun g hg => by injection hg with hg; omega)⟩
theorem map_some_inj {α : Type} : ∀ {a b : List α}, a.map some = b.map some → a = b
  | [], [], _ => rfl
  | [], _ :: _, h => by simp at h
  | _ :: _, [], h => by simp at h
  | x :: a, y :: b, h => by
    simp only [List.map_cons, List.cons.injEq, Option.some.injEq] at h
    rw [h.1, map_some_inj h.2]
theorem map_some_none {α : Type} {a b : List α} (h : a.map some ++ [none] = b.map some) : False := by
  have h1 : (none : Option α) ∈ b.map some := by rw [← h]; simp
  simp at h1
def ListPost (w : World) (m : Nat) (bs : List UInt8) (e : Ending) (w' : World) : Prop :=
  (match allQ bs with
    | none => e = .returned (.tuple #[.slice none 0 0, .int .i64 9])
    | some l => ∃ (A : Option Addr) (n c : Nat) (ps : List PV), e = .returned (.tuple #[.slice A n c, .int .i64 0]) ∧ ps.map (fun p => (p.raw, p.body)) = l ∧ (∀ p ∈ ps, p.Ok w m) ∧ OwnR w' w.heap.size 100 2 A n c (ps.flatMap PV.cells)) ∧ Below w.heap.size w w'
set_option maxHeartbeats 2000000 in
theorem list_any (A0 : Option Addr) (n0 c0 : Nat) (bs : List UInt8) (w : World) (hR0 : RB w A0 n0 bs) (hnc : n0 ≤ c0) (hn : n0 ≤ 1000000000) (hc : c0 ≤ 9223372036854775807) :
    Calls Try.prog 47 #[.slice A0 n0 c0] w (ListPost w n0 bs) := by
  refine (callsIn_wide (n := 4)).1 ?_
  refine callsIn_of_wp_marks Try.func47 rfl trivial ?_ rfl
  simp only [Try.ntmps47, List.size_toArray, List.length_cons, List.length_nil, Nat.reduceAdd, Nat.reduceSub, Array.replicate_succ, Array.replicate_zero, List.push_toArray, List.append_toArray, List.nil_append, List.cons_append]
  gi_wp2_with (refine ⟨trivial, ?_⟩; gi_at_call 57; refine (callsIn_wide.2 (pieces_any _ _ _ _)).mono ?_; rintro e w' ⟨rfl, rfl⟩)
  simp only [Nat.add_assoc, Nat.reduceAdd]
  refine wpIn_nm fun W0 hW0 => ?_
  have k0 : W0.heap[w.heap.size]? = some (.cells #[.slice none 0 0] 96) := by rw [← hW0]; exact has_alloc (has_alloc (has_alloc (has_new w _) _) _) _
  have k1 : W0.heap[w.heap.size + 1]? = some (.cells #[.int .i64 0] 36) := by rw [← hW0]; exact has_alloc (has_alloc (has_new' _ _ _ (by simp)) _) _
  have k2 : W0.heap[w.heap.size + 2]? = some (.cells #[.slice none 0 0] 96) := by rw [← hW0]; exact has_alloc (has_new' _ _ _ (by simp)) _
  have k3 : W0.heap[w.heap.size + 3]? = some (.cells #[.slice A0 n0 c0] 22) := by rw [← hW0]; exact has_new' _ _ _ (by simp)
  have hb0 : Below w.heap.size w W0 := by rw [← hW0]; exact kp_alloc (kp_alloc (kp_alloc (kp_alloc (Below.refl _ _) _) _) _) _
  have hs0 : W0.heap.size = w.heap.size + 4 := by rw [← hW0]; simp
  have HS0 := Lib.hid hs0
  have I0 : LI w n0 [] W0 := ⟨⟨[], none, 0, 0, rfl, k2, OwnR.nil _ _ _ _⟩, k0, k1, hb0⟩
  refine range_run (gf := 70) (lb := #[.pointer (some ⟨w.heap.size + 3, 0, none⟩)]) rfl (enters_of Try.func70 (by kernel_rfl) rfl) (by omega) pvEnc (fun x => by cases x <;> rfl) (· = w.heap.size + 3) (fun b hb => by rw [hb, HS0.out]; omega)
    (fun pre W => LI w n0 pre W ∧ (pre = [] → W.heap[w.heap.size + 3]? = some (.cells #[.slice A0 n0 c0] 22))) (fun pre W => LX w pre W)
    (fun xs => (∃ ps : List PV, xs = ps.map some ∧ (∀ p ∈ ps, p.Ok w n0) ∧ allQ bs = some (ps.map fun p => (p.raw, p.body))) ∨ (∃ ps : List PV, xs = ps.map some ++ [none])) (fun pre => (∃ ps : List PV, pre = ps.map some ++ [none]) → allQ bs = none) (n0 + 1)
    ?hI ?hIx ?h0 ?round ?iter ?done ?stop
  case hI =>
    rintro pre W b o h1 h2 ⟨hi, he⟩
    rw [HS0.out] at h1 h2
    exact ⟨hi.grown (putObj_grown W b o) (by omega) (by omega), fun e => (World.putObj_heap_other (by omega)).trans (he e)⟩
  case hIx =>
    rintro pre W b o h1 h2 hi
    rw [HS0.out] at h1 h2
    exact hi.grown (putObj_grown W b o) (by omega)
  case h0 => exact fun o1 o2 => ⟨(I0.alloc _).alloc _, fun _ => has_alloc (has_alloc k3 _) _⟩
  case iter =>
    rw [HS0.out]
    exact pieces1_in n0 c0 (w.heap.size + 4) (w.heap.size + 3) A0 bs w hR0 hnc hn hc (by omega) (by omega) (LI w n0) (fun _ _ h => h.b) (fun _ W u h => h.grown (grown_one W _ 0 u) (by omega) (by omega)) (fun _ _ k h => h.drewN k) (fun _ _ h => h.drew)
  case done =>
    rw [HS0.out]
    rintro xs W (⟨ps, rfl, hok, hall⟩ | ⟨ps, rfl⟩) ⟨hi, _⟩ hD
    · obtain ⟨⟨ps', A, m, c, e, hout, hown⟩, hz0, hz1, hbl⟩ := hi
      obtain rfl := map_some_inj e
      have hc2 := cells_1 hout
      have hc0 := cells_1 hz0
      have hc1 := cells_1 hz1
      have hf0 := free_1 hz0
      have hf1 := free_1 hz1
      have HA := Lib.hid hall
      have HO := Lib.hid hok
      have hD2 : ((W.setCell ⟨w.heap.size, 0, none⟩ (.slice A m c)).setCell ⟨w.heap.size + 1, 0, none⟩ (.int .i64 0)).heap[w.heap.size + 4]? = some (.deferred (some [])) := (heap_set_far _ _ _ _ _ (by omega)).trans ((heap_set_far _ _ _ _ _ (by omega)).trans hD)
      have hr0 : ((W.setCell ⟨w.heap.size, 0, none⟩ (.slice A m c)).setCell ⟨w.heap.size + 1, 0, none⟩ (.int .i64 0)).heap[w.heap.size]? = some (.cells #[.slice A m c] 96) := (heap_set_far _ _ _ _ _ (by omega)).trans (set_1 hz0)
      have hr1 : ((W.setCell ⟨w.heap.size, 0, none⟩ (.slice A m c)).setCell ⟨w.heap.size + 1, 0, none⟩ (.int .i64 0)).heap[w.heap.size + 1]? = some (.cells #[.int .i64 0] 36) := set_1 ((heap_set_far _ _ _ _ _ (by omega)).trans hz1)
      have ho2 : OwnR ((W.setCell ⟨w.heap.size, 0, none⟩ (.slice A m c)).setCell ⟨w.heap.size + 1, 0, none⟩ (.int .i64 0)) (w.heap.size + 6) 100 2 A m c (ps.flatMap PV.cells) := (hown.kept (grown_one _ _ _ _) (.inr (fun e => by have := (hown.blk_lt e).1; omega))).kept (grown_one _ _ _ _) (.inr (fun e => by have := (hown.blk_lt e).1; omega))
      have hb2 : Below w.heap.size w ((W.setCell ⟨w.heap.size, 0, none⟩ (.slice A m c)).setCell ⟨w.heap.size + 1, 0, none⟩ (.int .i64 0)) := kp_set (kp_set hbl (Nat.le_refl _)) (by omega)
      have HR := Lib.hid (And.intro hD2 (And.intro hr0 (And.intro hr1 (And.intro ho2 hb2))))
      clear hD2 hr0 hr1 ho2 hb2 hall hok hown hD
      gi_wp2
      obtain ⟨hD2, hr0, hr1, ho2, hb2⟩ := HR.out
      refine ⟨by simp, .inl ⟨_, _, rfl, run_takeDeferred hD2, ?_⟩⟩
      have hg := putObj_grown ((W.setCell ⟨w.heap.size, 0, none⟩ (.slice A m c)).setCell ⟨w.heap.size + 1, 0, none⟩ (.int .i64 0)) (w.heap.size + 4) (.deferred none)
      refine ⟨_, results_cc Try.results47 _ (LV.one (cells_1 ((World.putObj_heap_other (by omega)).trans hr0)) (by intro w; kernel_rfl)) (LV.one (cells_1 ((World.putObj_heap_other (by omega)).trans hr1)) (by intro w; kernel_rfl)), ?_⟩
      unfold ListPost
      rw [HA.out]
      exact ⟨⟨A, m, c, ps, rfl, rfl, HO.out, (ho2.kept hg (.inr (fun e => by have := (ho2.blk_lt e).1; omega))).lower (by omega)⟩, hb2.grown hg hb2.size (fun g hg => by injection hg with hg; omega)⟩
    · obtain ⟨⟨ps', A, m, c, e, hout, hown⟩, hz0, hz1, hbl⟩ := hi
      exact (map_some_none e).elim
  case stop =>
    rw [HS0.out]
    rintro pre W hSp ⟨hex, hz0, hz1, hbl⟩ hD
    have HA := Lib.hid (hSp hex)
    gi_wp2
    refine ⟨by simp, .inl ⟨_, _, rfl, run_takeDeferred hD, ?_⟩⟩
    have hg := putObj_grown W (w.heap.size + 4) (.deferred none)
    refine ⟨_, results_cc Try.results47 _ (LV.one (cells_1 ((World.putObj_heap_other (by omega)).trans hz0)) (by intro w; kernel_rfl)) (LV.one (cells_1 ((World.putObj_heap_other (by omega)).trans hz1)) (by intro w; kernel_rfl)), ?_⟩
    unfold ListPost
    rw [HA.out]
    exact ⟨rfl, hbl.grown hg hbl.size (fun g hg => by injection hg with hg; omega)⟩
  case round =>
    rw [HS0.out]
    rintro pre x W r o hL hD ⟨hi, _⟩ hlen
    obtain ⟨⟨ps, A, m, c, rfl, hout, hown⟩, hz0, hz1, hbl⟩ := hi
    cases x with
    | none =>
      simp only [pvEnc]
      gi_wp2
      have hLlt := block_lt hL
      refine ⟨has_alloc hL _, has_alloc hD _, fun b hb => by subst hb; exact heap_alloc_old _ _ (by omega), fun r' => ?_⟩
      have b0 : ((W.alloc (.cells #[.slice none 0 0, .slice none 0 0] 100)).putObj (w.heap.size + 4 + 1) (.loop r')).heap[w.heap.size]? = some (.cells #[.slice none 0 0] 96) := (World.putObj_heap_other (by omega)).trans (has_alloc hz0 _)
      have b1 : ((W.alloc (.cells #[.slice none 0 0, .slice none 0 0] 100)).putObj (w.heap.size + 4 + 1) (.loop r')).heap[w.heap.size + 1]? = some (.cells #[.int .i64 0] 36) := (World.putObj_heap_other (by omega)).trans (has_alloc hz1 _)
      have bL : ((W.alloc (.cells #[.slice none 0 0, .slice none 0 0] 100)).putObj (w.heap.size + 4 + 1) (.loop r')).heap[w.heap.size + 4 + 1]? = some (.loop r') := World.putObj_heap_same (by simp; omega)
      have bB : Below w.heap.size w ((W.alloc (.cells #[.slice none 0 0, .slice none 0 0] 100)).putObj (w.heap.size + 4 + 1) (.loop r')) := (kp_alloc hbl _).grown (putObj_grown _ _ _) (kp_alloc hbl _).size (fun g hg => by injection hg with hg; omega)
      generalize ((W.alloc (.cells #[.slice none 0 0, .slice none 0 0] 100)).putObj (w.heap.size + 4 + 1) (.loop r')) = Wb at *
      have hc0 := cells_1 b0
      have hc1 := cells_1 b1
      have hf0 := free_1 b0
      have hf1 := free_1 b1
      have hr0 : ((Wb.setCell ⟨w.heap.size, 0, none⟩ (.slice none 0 0)).setCell ⟨w.heap.size + 1, 0, none⟩ (.int .i64 9)).heap[w.heap.size]? = some (.cells #[.slice none 0 0] 96) := (heap_set_far _ _ _ _ _ (by omega)).trans (set_1 b0)
      have hr1 : ((Wb.setCell ⟨w.heap.size, 0, none⟩ (.slice none 0 0)).setCell ⟨w.heap.size + 1, 0, none⟩ (.int .i64 9)).heap[w.heap.size + 1]? = some (.cells #[.int .i64 9] 36) := set_1 ((heap_set_far _ _ _ _ _ (by omega)).trans b1)
      have hb2 : Below w.heap.size w ((Wb.setCell ⟨w.heap.size, 0, none⟩ (.slice none 0 0)).setCell ⟨w.heap.size + 1, 0, none⟩ (.int .i64 9)) := kp_set (kp_set bB (Nat.le_refl _)) (by omega)
      have HR := Lib.hid (And.intro hr0 (And.intro hr1 (And.intro bL hb2)))
      clear hr0 hr1 hb2
      gi_wp2
      obtain ⟨hr0, hr1, bL, hb2⟩ := HR.out
      exact ⟨(heap_set_far _ _ _ _ _ (by omega)).trans ((heap_set_far _ _ _ _ _ (by omega)).trans bL), (heap_set_far _ _ _ _ _ (by omega)).trans (heap_set_far _ _ _ _ _ (by omega)), ⟨ps, rfl⟩, hr0, hr1, hb2⟩
    | some p =>
      simp only [pvEnc, PV.val]
      gi_wp2
      have hLlt := block_lt hL
      refine ⟨has_alloc hL _, has_alloc hD _, fun b hb => by subst hb; exact heap_alloc_old _ _ (by omega), fun r' => ?_⟩
      have hpl : ps.length < n0 + 1 := by simpa using hlen
      have hml : m = ps.length := by
        have h9 := hown.len
        have : ∀ l : List PV, (l.flatMap PV.cells).length = l.length * 2 := fun l => by
          induction l with
          | nil => rfl
          | cons x l ih => simp only [List.flatMap_cons, List.length_append, ih, List.length_cons]; simp [PV.cells]; omega
        rw [this] at h9
        omega
      have b2 : ((W.alloc (.cells #[.slice p.ra p.rn p.rc, .slice p.ba p.bn p.bc] 100)).putObj (w.heap.size + 4 + 1) (.loop r')).heap[w.heap.size + 2]? = some (.cells #[.slice A m c] 96) := (World.putObj_heap_other (by omega)).trans (has_alloc hout _)
      have b5 : ((W.alloc (.cells #[.slice p.ra p.rn p.rc, .slice p.ba p.bn p.bc] 100)).putObj (w.heap.size + 4 + 1) (.loop r')).heap[W.heap.size]? = some (.cells #[.slice p.ra p.rn p.rc, .slice p.ba p.bn p.bc] 100) := (World.putObj_heap_other (by omega)).trans (has_new _ _)
      have bL : ((W.alloc (.cells #[.slice p.ra p.rn p.rc, .slice p.ba p.bn p.bc] 100)).putObj (w.heap.size + 4 + 1) (.loop r')).heap[w.heap.size + 4 + 1]? = some (.loop r') := World.putObj_heap_same (by simp; omega)
      have b0 : ((W.alloc (.cells #[.slice p.ra p.rn p.rc, .slice p.ba p.bn p.bc] 100)).putObj (w.heap.size + 4 + 1) (.loop r')).heap[w.heap.size]? = some (.cells #[.slice none 0 0] 96) := (World.putObj_heap_other (by omega)).trans (has_alloc hz0 _)
      have b1 : ((W.alloc (.cells #[.slice p.ra p.rn p.rc, .slice p.ba p.bn p.bc] 100)).putObj (w.heap.size + 4 + 1) (.loop r')).heap[w.heap.size + 1]? = some (.cells #[.int .i64 0] 36) := (World.putObj_heap_other (by omega)).trans (has_alloc hz1 _)
      have bB : Below w.heap.size w ((W.alloc (.cells #[.slice p.ra p.rn p.rc, .slice p.ba p.bn p.bc] 100)).putObj (w.heap.size + 4 + 1) (.loop r')) := (kp_alloc hbl _).grown (putObj_grown _ _ _) (kp_alloc hbl _).size (fun g hg => by injection hg with hg; omega)
      have bO : OwnR ((W.alloc (.cells #[.slice p.ra p.rn p.rc, .slice p.ba p.bn p.bc] 100)).putObj (w.heap.size + 4 + 1) (.loop r')) (w.heap.size + 6) 100 2 A m c (ps.flatMap PV.cells) := (hown.alloc _).kept (putObj_grown _ _ _) (.inr (fun e => by have := (hown.blk_lt e).1; omega))
      have bS : W.heap.size < ((W.alloc (.cells #[.slice p.ra p.rn p.rc, .slice p.ba p.bn p.bc] 100)).putObj (w.heap.size + 4 + 1) (.loop r')).heap.size := block_lt b5
      generalize ((W.alloc (.cells #[.slice p.ra p.rn p.rc, .slice p.ba p.bn p.bc] 100)).putObj (w.heap.size + 4 + 1) (.loop r')) = Wb at *
      have hc2 := cells_1 b2
      have hf2 := free_1 b2
      obtain ⟨hp0, hp1⟩ := cells_2 b5
      have HML := Lib.hid hml
      have hm2 : m ≤ 1000000000 := by omega
      clear hml hpl
      gi_wp2_with (gi_at_builtin; refine wpListIn_appL pv_row _ _ rfl rfl (w.heap.size + 6) A m c _ rfl (bO.alloc _) _ 1 1 #[.slice p.ra p.rn p.rc, .slice p.ba p.bn p.bc] (0, 0) rfl (has_new _ _) rfl (by intro u hu; simp at hu; rcases hu with rfl | rfl <;> rfl) (by unfold maxLen; omega) (by omega) (by simp; omega) ?_; intro A4 c4 w4 hown4 hg4; have hne4 : ∀ j, j < w.heap.size + 6 → some j ≠ blk A := (fun j hj e => by have := (bO.blk_lt e.symm).1; omega); have d2 := (hg4.block (w.heap.size + 2) (by simp; omega) (hne4 _ (by omega))).trans (has_alloc b2 _); have hc4 := cells_1 d2; have hf4 := free_1 d2)
      have hk : ∀ j, j < w.heap.size + 6 → j ≠ w.heap.size + 2 → (w4.setCell ⟨w.heap.size + 2, 0, none⟩ (.slice A4 (m + 1) c4)).heap[j]? = Wb.heap[j]? := fun j hj hne =>
        (heap_set_far _ _ _ _ _ hne).trans ((hg4.block j (by simp; omega) (hne4 _ hj)).trans (heap_alloc_old _ _ (by omega)))
      have hsz4 := hg4.size
      simp at hsz4
      refine ⟨(hk _ (by omega) (by omega)).trans bL, hk _ (by omega) (by omega), fun b hb => by subst hb; exact hk _ (by omega) (by omega), ⟨⟨ps ++ [p], A4, m + 1, c4, by simp, set_1 d2, ?_⟩, (hk _ (by omega) (by omega)).trans b0, (hk _ (by omega) (by omega)).trans b1, ?_⟩, fun e => by simp at e⟩
      · have := hown4.kept (grown_one w4 (w.heap.size + 2) 0 (.slice A4 (m + 1) c4)) (.inr (fun e => by have := (hown4.blk_lt e).1; omega))
        simpa [PV.cells] using this
      · exact kp_set ((kp_alloc bB _).grown hg4 (kp_alloc bB _).size (fun g hg => by have := (bO.blk_lt hg).1; omega)) (by omega)
end Go.Proofs.Ytomolfdcdmncoaa
namespace Go.Proofs.Ytomolfdcdmncoaa
open Go.RowKit Go
set_option linter.unusedVariables false
set_option maxRecDepth 100000
theorem el_row : RowT 89 46 3 56 (.agg #[.int .u8 0, .slice none 0 0, .slice none 0 0]) := ⟨Try.underlying89, by kernel_rfl, rfl, by decide⟩
/-- An element in memory: its tag, its body's slice, its bytes' slice, and what they read as. -/
structure EV where
  tag : UInt8
  ba : Option Addr
  bn : Nat
  bc : Nat
  ra : Option Addr
  rn : Nat
  rc : Nat
  body : List UInt8
  raw : List UInt8
def EV.cells (v : EV) : List Value := [.int .u8 (v.tag.toNat : Int), .slice v.ba v.bn v.bc, .slice v.ra v.rn v.rc]
def EV.own (v : EV) : List Own1 := [(v.ba, v.bn, v.bc, v.body), (v.ra, v.rn, v.rc, v.raw)]
def Far (x y : Own1) : Prop := blk x.1 = none ∨ blk x.1 ≠ blk y.1
/-- Elements with memory of their own, each slice by itself. -/
structure Evs (w : World) (base : Nat) (vs : List EV) : Prop where
  own : ∀ x ∈ vs.flatMap EV.own, OwnB w base x.1 x.2.1 x.2.2.1 x.2.2.2
  far : (vs.flatMap EV.own).Pairwise Far
  tag : ∀ v ∈ vs, v.raw.getD 0 0 = v.tag
theorem Evs.nil (w : World) (base : Nat) : Evs w base [] := ⟨fun x hx => by simp at hx, by simp, fun v hv => by cases hv⟩
theorem Evs.below {w w' : World} {base : Nat} {vs : List EV} (h : Evs w base vs) {B : Nat} (hb : Below B w w') (hB : w.heap.size ≤ B) : Evs w' base vs := ⟨fun x hx => (h.own x hx).below hb hB, h.far, h.tag⟩
theorem Evs.far_ {w w' : World} {base g : Nat} {vs : List EV} (h : Evs w base vs) (hg : w.grownBy w' (some g)) (hlt : g < base) : Evs w' base vs := ⟨fun x hx => (h.own x hx).far hg hlt, h.far, h.tag⟩
theorem Evs.lower {w : World} {base base' : Nat} {vs : List EV} (h : Evs w base vs) (hb : base' ≤ base) : Evs w base' vs := ⟨fun x hx => (h.own x hx).lower hb, h.far, h.tag⟩
theorem Evs.drewN {w : World} {base : Nat} {vs : List EV} (h : Evs w base vs) (k : Nat) : Evs (w.drewN k) base vs := ⟨fun x hx => (h.own x hx).drewN k, h.far, h.tag⟩
/-- One more, made in a later world. -/
theorem Evs.snoc {w w' : World} {base : Nat} {vs : List EV} (h : Evs w base vs) (hb : Below w.heap.size w w') (hbase : base ≤ w.heap.size) (v : EV) (h1 : OwnB w' w.heap.size v.ba v.bn v.bc v.body) (h2 : OwnB w' w.heap.size v.ra v.rn v.rc v.raw) (hne : blk v.ba = none ∨ blk v.ba ≠ blk v.ra) (ht : v.raw.getD 0 0 = v.tag) : Evs w' base (vs ++ [v]) := by
  refine ⟨fun x hx => ?_, ?_, fun u hu => ?_⟩
  · simp only [List.flatMap_append, List.flatMap_cons, List.flatMap_nil, List.append_nil, List.mem_append] at hx
    rcases hx with hx | hx
    · exact (h.own x hx).below hb (Nat.le_refl _)
    · simp only [EV.own, List.mem_cons, List.not_mem_nil, or_false] at hx
      rcases hx with rfl | rfl
      · exact h1.lower hbase
      · exact h2.lower hbase
  · simp only [List.flatMap_append, List.flatMap_cons, List.flatMap_nil, List.append_nil]
    rw [List.pairwise_append]
    refine ⟨h.far, ?_, fun x hx y hy => ?_⟩
    · simp only [EV.own, List.pairwise_cons, List.mem_cons, List.not_mem_nil, or_false]
      exact ⟨fun y hy => by rw [hy]; exact hne, by simp⟩
    · have hx := h.own x hx
      simp only [EV.own, List.mem_cons, List.not_mem_nil, or_false] at hy
      rcases hy with rfl | rfl
      · exact blk_ne hx h1 (Nat.le_refl _)
      · exact blk_ne hx h2 (Nat.le_refl _)
  · rcases List.mem_append.1 hu with hu | hu
    · exact h.tag u hu
    · rw [List.mem_singleton.1 hu]; exact ht
def AllPost (w : World) (bs : List UInt8) (e : Ending) (w' : World) : Prop :=
  (match allQ bs with
    | none => e = .returned (.tuple #[.slice none 0 0, .int .i64 9])
    | some l => ∃ (A : Option Addr) (n c : Nat) (vs : List EV), e = .returned (.tuple #[.slice A n c, .int .i64 0]) ∧ vs.map (fun v => (v.raw, v.body)) = l ∧ OwnR w' w.heap.size 46 3 A n c (vs.flatMap EV.cells) ∧ Evs w' w.heap.size vs) ∧ Below w.heap.size w w'
theorem cells_flat (l : List PV) : (l.flatMap PV.cells).length = l.length * 2 := by
  induction l with
  | nil => rfl
  | cons x l ih => simp only [List.flatMap_cons, List.length_append, ih, List.length_cons]; simp [PV.cells]; omega
theorem ecells_flat (l : List EV) : (l.flatMap EV.cells).length = l.length * 3 := by
  induction l with
  | nil => rfl
  | cons x l ih => simp only [List.flatMap_cons, List.length_append, ih, List.length_cons]; simp [EV.cells]; omega
theorem flat_get (ps : List PV) (p : PV) (j : Nat) (h : ps[j]? = some p) : (ps.flatMap PV.cells)[j * 2]? = some (.slice p.ra p.rn p.rc) ∧ (ps.flatMap PV.cells)[j * 2 + 1]? = some (.slice p.ba p.bn p.bc) := by
  induction ps generalizing j with
  | nil => simp at h
  | cons x r ih =>
    cases j with
    | zero =>
      simp at h
      subst h
      exact ⟨rfl, rfl⟩
    | succ k =>
      simp only [List.getElem?_cons_succ] at h
      have := ih k h
      simp only [List.flatMap_cons, PV.cells, List.cons_append, List.nil_append]
      rw [show (k + 1) * 2 = k * 2 + 1 + 1 by omega]
      simp only [List.getElem?_cons_succ]
      exact this
theorem all_no (A0 : Option Addr) (n0 c0 : Nat) (bs : List UInt8) (w : World) (hR0 : RB w A0 n0 bs) (hnc : n0 ≤ c0) (hn : n0 ≤ 1000000000) (hc : c0 ≤ 9223372036854775807) (h : allQ bs = none) :
    Calls Try.prog 59 #[.slice A0 n0 c0] w (AllPost w bs) := by
  have C : Hid (Calls Try.prog 47 #[.slice A0 n0 c0] w fun e w' => e = .returned (.tuple #[.slice none 0 0, .int .i64 9]) ∧ Below w.heap.size w w') := (list_any A0 n0 c0 bs w hR0 hnc hn hc).mono fun e w' hp => by
    unfold ListPost at hp; rw [h] at hp; exact hp
  have H := Lib.hid h
  clear h hR0
  go_enter Try.func59, Try.ntmps59
  go_wp2_with fail
  refine C.out.mono ?_
  rintro e w' ⟨rfl, hb⟩
  go_wp2
  go_ret2
  unfold AllPost
  rw [H.out]
  exact ⟨rfl, hb⟩
theorem all_yes (A0 : Option Addr) (n0 c0 : Nat) (bs : List UInt8) (w : World) (hR0 : RB w A0 n0 bs) (hnc : n0 ≤ c0) (hn : n0 ≤ 1000000000) (hc : c0 ≤ 9223372036854775807) (l : List (List UInt8 × List UInt8)) (h : allQ bs = some l) (hlen : l.length ≤ 1000000000) :
    Calls Try.prog 59 #[.slice A0 n0 c0] w (AllPost w bs) := by
  have C : Hid (Calls Try.prog 47 #[.slice A0 n0 c0] w fun e w' => (∃ (A : Option Addr) (n c : Nat) (ps : List PV), e = .returned (.tuple #[.slice A n c, .int .i64 0]) ∧ ps.map (fun p => (p.raw, p.body)) = l ∧ (∀ p ∈ ps, p.Ok w n0) ∧ OwnR w' w.heap.size 100 2 A n c (ps.flatMap PV.cells)) ∧ Below w.heap.size w w') := (list_any A0 n0 c0 bs w hR0 hnc hn hc).mono fun e w' hp => by
    unfold ListPost at hp; rw [h] at hp; exact hp
  have H := Lib.hid h
  clear h hR0
  go_enter Try.func59, Try.ntmps59
  go_wp2_with fail
  refine C.out.mono ?_
  rintro e w1 ⟨⟨A, n, c, ps, rfl, hps, hok, hown⟩, hb1⟩
  have hnp : n = ps.length := by have := hown.len; rw [cells_flat] at this; omega
  have hnl : ps.length = l.length := by rw [← hps]; simp
  have HNP := Lib.hid hnp
  have HPS := Lib.hid hps
  have HOK := Lib.hid hok
  have HOW := Lib.hid hown
  have hn2 : n ≤ 1000000000 := by omega
  have hs1 := hb1.size
  clear hnp hnl hps hok hown
  go_wp2_with (refine wpList_mkR el_row _ _ rfl rfl _ _ _ _ n rfl rfl rfl rfl (by unfold maxLen; omega) (by omega) ?_)
  intro w2 hmk hg2
  have hb12 : Below w1.heap.size w1 w2 := (Below.refl _ _).grown hg2 (Nat.le_refl _) (by intro g hg; cases hg)
  have hgl : w1.heap.size < w2.heap.size := (hmk.blk_lt rfl).2
  go_wp2
  go_loopw [22] (fun i wl => ∃ (j : Nat) (vs : List EV) (tail : List Value), j ≤ n ∧ i = .int .i64 j ∧ OwnR wl w1.heap.size 46 3 (some ⟨w1.heap.size, 0, none⟩) n n (vs.flatMap EV.cells ++ tail) ∧ Evs wl (w1.heap.size + 1) vs ∧ Below w1.heap.size w1 wl ∧ Hid (vs.map (fun v => (v.raw, v.body)) = (ps.take j).map (fun p => (p.raw, p.body)))) (fun i _ => n - (intOf i).toNat)
  case atStart => exact ⟨0, [], _, Nat.zero_le _, rfl, hmk, Evs.nil _ _, hb12, rfl⟩
  case round =>
    obtain ⟨j, vs, tail, hj, rfl, hrow, hev, hbl, HV⟩ := hrel
    clear hmk hb12 hg2 hgl
    by_cases hlt : j < n
    · obtain ⟨p, hp⟩ : ∃ p, ps[j]? = some p := ⟨_, List.getElem?_eq_getElem (by rw [← HNP.out]; exact hlt)⟩
      obtain ⟨hg0, hg1⟩ := flat_get ps p j hp
      obtain ⟨b, off, rfl, hb, hc0⟩ := HOW.out.reads.at_ hg0
      obtain ⟨b', off', e', _, hc1⟩ := HOW.out.reads.at_ hg1
      cases e'
      have d0 := kp_cell hbl hc0
      have d1 := kp_cell hbl hc1
      rw [← Nat.add_assoc] at d1
      have hpk := HOK.out p (List.mem_of_getElem? hp)
      have HP := Lib.hid hp
      clear hc0 hc1 hp hg0 hg1
      obtain ⟨⟨pa, rn, rc, ba, bn, bc, raw, body⟩, hpe⟩ : ∃ q, q = p := ⟨_, rfl⟩
      subst hpe
      obtain ⟨hr, hbd, h2, hle, hble, _, _⟩ := hpk
      simp only at *
      obtain ⟨pb, po, tag, rfl, hpb, htag, hct⟩ := hr.at_ (k := 0) (by omega)
      have hct : w.cell? ⟨pb, po, none⟩ = some (.int .u8 (tag.toNat : Int)) := hct
      have hbw : Below w.heap.size w wr := hb1.trans (hbl.mono hs1)
      have CE := Lib.hid (elem_any pb po rn rc ba bn bc tag raw body (wr.alloc (.cells #[.slice (some ⟨pb, po, none⟩) rn rc, .slice ba bn bc] 100)) (hr.below (kp_alloc hbw _)) (by omega) (kp_cell (kp_alloc hbw _) hct) (hbd.below (kp_alloc hbw _)) (by omega) (by omega))
      have hsr := hbl.size
      have htg : raw.getD 0 0 = tag := by rw [List.getD_eq_getElem?_getD, htag]; rfl
      have HTG := Lib.hid htg
      have hgl := (hrow.blk_lt rfl).2
      have HRW := Lib.hid hrow
      clear hr hbd hct htag htg hrow
      go_wp2_with fail
      refine CE.out.mono ?_
      rintro e w4 ⟨A1, n1, c1, A2, n2, c2, rfl, ho1, ho2, hne, hb4⟩
      have hb14 : Below wr.heap.size wr w4 := kp_call (kp_alloc (Below.refl _ _) _) hb4
      have hrow4 := HRW.out.below hb14 (Nat.le_refl _)
      have hvl : vs.length = j := by
        have := congrArg List.length HV.out
        simp at this
        have h9 := HNP.out
        omega
      obtain ⟨x0, x1, x2, tl, rfl⟩ : ∃ x0 x1 x2 tl, tail = x0 :: x1 :: x2 :: tl := by
        have h9 := hrow4.len
        rw [List.length_append, ecells_flat, hvl] at h9
        match tail, h9 with
        | x0 :: x1 :: x2 :: tl, _ => exact ⟨x0, x1, x2, tl, rfl⟩
        | [], h9 => simp at h9; omega
        | [_], h9 => simp at h9; omega
        | [_, _], h9 => simp at h9; omega
      have hlc : (vs.flatMap EV.cells).length = j * 3 := by rw [ecells_flat, hvl]
      have hcl : ∀ i u, i < 3 → (x0 :: x1 :: x2 :: tl)[i]? = some u → w4.cell? ⟨w1.heap.size, j * 3 + i, none⟩ = some u := fun i u hi hu => by
        obtain ⟨b', off', e', _, hc⟩ := hrow4.reads.at_ (j := j * 3 + i) (u := u) (by rw [List.getElem?_append_right (by omega), hlc, Nat.add_sub_cancel_left]; exact hu)
        cases e'
        simpa using hc
      have e0 : w4.cell? ⟨w1.heap.size, j * 3, none⟩ = some x0 := hcl 0 x0 (by omega) rfl
      have e1 : (w4.setCell ⟨w1.heap.size, j * 3, none⟩ (.int .u8 (tag.toNat : Int))).cell? ⟨w1.heap.size, j * 3 + 1, none⟩ = some x1 := (World.cell?_setCell_other _ _ _ _ (by simp)).trans (hcl 1 x1 (by omega) rfl)
      have e2 : ((w4.setCell ⟨w1.heap.size, j * 3, none⟩ (.int .u8 (tag.toNat : Int))).setCell ⟨w1.heap.size, j * 3 + 1, none⟩ (.slice A1 n1 c1)).cell? ⟨w1.heap.size, j * 3 + 2, none⟩ = some x2 := (World.cell?_setCell_other _ _ _ _ (by simp)).trans ((World.cell?_setCell_other _ _ _ _ (by simp)).trans (hcl 2 x2 (by omega) rfl))
      have f0 := hrow4.free (j * 3)
      have f1 := hrow4.free (j * 3 + 1)
      have f2 := hrow4.free (j * 3 + 2)
      have hst := ((hrow4.stored (j * 3) (.int .u8 (tag.toNat : Int))).stored (j * 3 + 1) (.slice A1 n1 c1)).stored (j * 3 + 2) (.slice A2 n2 c2)
      have hse : (((vs.flatMap EV.cells ++ x0 :: x1 :: x2 :: tl).set (j * 3) (.int .u8 (tag.toNat : Int))).set (j * 3 + 1) (.slice A1 n1 c1)).set (j * 3 + 2) (.slice A2 n2 c2) = (vs ++ [(⟨tag, A1, n1, c1, A2, n2, c2, body, raw⟩ : EV)]).flatMap EV.cells ++ tl := by
        rw [← hlc, List.set_append_right _ _ (Nat.le_refl _), Nat.sub_self, List.set_append_right _ _ (by omega), Nat.add_sub_cancel_left, List.set_append_right _ _ (by omega), Nat.add_sub_cancel_left]
        simp [EV.cells]
      rw [hse] at hst
      have hev4 : Evs w4 (w1.heap.size + 1) (vs ++ [⟨tag, A1, n1, c1, A2, n2, c2, body, raw⟩]) := hev.snoc hb14 (by omega) _ (ho1.lower (by simp)) (ho2.lower (by simp)) hne HTG.out
      have hgr : w4.grownBy (((w4.setCell ⟨w1.heap.size, j * 3, none⟩ (.int .u8 (tag.toNat : Int))).setCell ⟨w1.heap.size, j * 3 + 1, none⟩ (.slice A1 n1 c1)).setCell ⟨w1.heap.size, j * 3 + 2, none⟩ (.slice A2 n2 c2)) (some w1.heap.size) := grown_tr (grown_tr (grown_one _ _ _ _) (grown_one _ _ _ _)) (grown_one _ _ _ _)
      have hbl5 : Below w1.heap.size w1 (((w4.setCell ⟨w1.heap.size, j * 3, none⟩ (.int .u8 (tag.toNat : Int))).setCell ⟨w1.heap.size, j * 3 + 1, none⟩ (.slice A1 n1 c1)).setCell ⟨w1.heap.size, j * 3 + 2, none⟩ (.slice A2 n2 c2)) := kp_set (kp_set (kp_set (hbl.trans (hb14.mono hsr)) (Nat.le_refl _)) (Nat.le_refl _)) (Nat.le_refl _)
      have HVN : Hid ((vs ++ [(⟨tag, A1, n1, c1, A2, n2, c2, body, raw⟩ : EV)]).map (fun v => (v.raw, v.body)) = (ps.take (j + 1)).map (fun p => (p.raw, p.body))) := by
        unfold Hid
        rw [List.take_add_one, HP.out, List.map_append, HV.out, List.map_append]
        rfl
      have HR := Lib.hid (And.intro hst (And.intro (hev4.far_ hgr (Nat.lt_succ_self _)) hbl5))
      clear hst hev4 hgr hbl5 hse hcl hlc hvl hrow4 ho1 ho2 hne
      go_wp2
      obtain ⟨r1, r2, r3⟩ := HR.out
      go_roundw
      case rel => exact ⟨j + 1, vs ++ [⟨tag, A1, n1, c1, A2, n2, c2, body, raw⟩], tl, by omega, by go_num, r1, r2, r3, HVN⟩
      case measure => simp [intOf]; omega
    · obtain rfl : j = n := by omega
      have htl : tail = [] := by
        have hvl : vs.length = j := by
          have := congrArg List.length HV.out
          simp at this
          have h9 := HNP.out
          omega
        have h9 := hrow.len
        rw [List.length_append, ecells_flat, hvl] at h9
        exact List.length_eq_zero_iff.1 (by omega)
      subst htl
      have HVN : Hid (vs.map (fun v => (v.raw, v.body)) = l) := by
        unfold Hid
        rw [HV.out, List.take_of_length_le (by rw [HNP.out]; exact Nat.le_refl _)]
        exact HPS.out
      rw [List.append_nil] at hrow
      go_wp2
      go_ret2
      unfold AllPost
      rw [H.out]
      exact ⟨⟨_, j, j, vs, rfl, HVN.out, hrow.lower hs1, hev.lower (by omega)⟩, hb1.trans (hbl.mono hs1)⟩
theorem allQ_len : ∀ (k : Nat) (bs : List UInt8) (l : List (List UInt8 × List UInt8)), bs.length ≤ k → allQ bs = some l → l.length ≤ bs.length
  | 0, bs, l, hk, h => by
    obtain rfl : bs = [] := List.length_eq_zero_iff.1 (by omega)
    rw [allQ_nil] at h
    cases h
    simp
  | k + 1, bs, l, hk, h => by
    by_cases hn : bs = []
    · subst hn
      rw [allQ_nil] at h
      cases h
      simp
    cases hq : splitQ bs with
    | none => rw [allQ_none hn hq] at h; cases h
    | some p =>
      obtain ⟨s, t⟩ := p
      rw [allQ_some hq] at h
      obtain ⟨l', h1, rfl⟩ := Option.map_eq_some_iff.1 h
      have hle := splitQ_le hq
      have ih := allQ_len k (bs.drop t) l' (by rw [List.length_drop]; omega) h1
      rw [List.length_drop] at ih
      simp; omega
theorem all_any (A0 : Option Addr) (n0 c0 : Nat) (bs : List UInt8) (w : World) (hR0 : RB w A0 n0 bs) (hnc : n0 ≤ c0) (hn : n0 ≤ 1000000000) (hc : c0 ≤ 9223372036854775807) :
    Calls Try.prog 59 #[.slice A0 n0 c0] w (AllPost w bs) := by
  cases h : allQ bs with
  | none => exact all_no A0 n0 c0 bs w hR0 hnc hn hc h
  | some l =>
    have := allQ_len _ bs _ (Nat.le_refl _) h
    rw [hR0.1] at this
    exact all_yes A0 n0 c0 bs w hR0 hnc hn hc l h (by omega)
end Go.Proofs.Ytomolfdcdmncoaa
namespace Go.Proofs.Ytomolfdcdmncoaa
open Go.RowKit Go
set_option linter.unusedVariables false
set_option maxRecDepth 100000
/-- The first of numbers that is not nought. -/
def firstN : List Nat → Nat
  | [] => 0
  | x :: r => if x = 0 then firstN r else x
theorem firstN_zero {l : List Nat} (h : ∀ x ∈ l, x = 0) : firstN l = 0 := by
  induction l with
  | nil => rfl
  | cons x r ih => simp only [firstN]; rw [if_pos (h x (by simp)), ih (fun y hy => h y (by simp [hy]))]
theorem firstN_at : ∀ (l : List Nat) (j : Nat) (x : Nat), l[j]? = some x → x ≠ 0 → (∀ i y, i < j → l[i]? = some y → y = 0) → firstN l = x
  | [], _, _, h, _, _ => by simp at h
  | z :: r, 0, x, h, hx, _ => by
    simp at h
    subst h
    simp only [firstN]
    rw [if_neg hx]
  | z :: r, j + 1, x, h, hx, hp => by
    simp only [firstN]
    rw [if_pos (hp 0 z (by omega) rfl)]
    exact firstN_at r j x h hx (fun i y hi hy => hp (i + 1) y (by omega) hy)
/-- What is said of an element that lies so deep that k more may lie in one another within it. -/
def chk : Nat → List UInt8 → List UInt8 → Nat
  | 0, raw, body => if nth raw 0 / 32 % 2 = 0 ∨ body = [] then 0 else 10
  | k + 1, raw, body => if nth raw 0 / 32 % 2 = 0 ∨ body = [] then 0 else match allQ body with
    | none => 9
    | some l => firstN (l.map fun p => chk k p.1 p.2)
theorem chk_leaf (k : Nat) {raw body : List UInt8} (h : nth raw 0 / 32 % 2 = 0 ∨ body = []) : chk k raw body = 0 := by
  cases k <;> (simp only [chk]; rw [if_pos h])
theorem chk_bottom {raw body : List UInt8} (h : ¬ (nth raw 0 / 32 % 2 = 0 ∨ body = [])) : chk 0 raw body = 10 := by
  simp only [chk]; rw [if_neg h]
theorem chk_none {k : Nat} {raw body : List UInt8} (h : ¬ (nth raw 0 / 32 % 2 = 0 ∨ body = [])) (h2 : allQ body = none) : chk (k + 1) raw body = 9 := by
  simp only [chk]; rw [if_neg h, h2]
theorem chk_some {k : Nat} {raw body : List UInt8} {l : List (List UInt8 × List UInt8)} (h : ¬ (nth raw 0 / 32 % 2 = 0 ∨ body = [])) (h2 : allQ body = some l) : chk (k + 1) raw body = firstN (l.map fun p => chk k p.1 p.2) := by
  simp only [chk]; rw [if_neg h, h2]
theorem chk_le : ∀ (k : Nat) (raw body : List UInt8), chk k raw body ≤ 10
  | 0, raw, body => by simp only [chk]; split <;> omega
  | k + 1, raw, body => by
    simp only [chk]
    split
    · omega
    · split
      · omega
      · rename_i l _
        have : ∀ l : List (List UInt8 × List UInt8), firstN (l.map fun p => chk k p.1 p.2) ≤ 10 := fun l => by
          induction l with
          | nil => simp [firstN]
          | cons x r ih =>
            simp only [List.map_cons, firstN]
            split
            · exact ih
            · exact chk_le k _ _
        exact this l
theorem and32 (p : UInt8) : bits BinOp.and IntKind.u8 (p.toNat : Int) 32 = (p.toNat : Int) / 32 % 2 * 32 := by
  have hp := p.toNat_lt
  have := u8_and_nat p.toNat 32 (by omega) (by omega)
  rw [show 32 = 2 ^ 5 from rfl, nat_bit 5] at this
  exact this.trans (by omega)
def ChkPost (w : World) (x : Nat) (e : Ending) (w' : World) : Prop := e = .returned (.int .i64 (x : Int)) ∧ Below w.heap.size w w'
theorem check_leaf (pb po rn rc : Nat) (ba : Option Addr) (bn bc : Nat) (tag : UInt8) (d : Int) (w : World) (h0 : 0 < rn) (hct : w.cell? ⟨pb, po, none⟩ = some (.int .u8 (tag.toNat : Int))) (h : tag.toNat / 32 % 2 = 0 ∨ bn = 0) :
    Calls Try.prog 48 #[.agg #[.slice (some ⟨pb, po, none⟩) rn rc, .slice ba bn bc], .int .i64 d] w (ChkPost w 0) := by
  have hand := and32 tag
  have hlt := World.block_lt_of_cell? w _ hct
  by_cases ht : tag.toNat / 32 % 2 = 0
  · have t1 : ((tag.toNat : Int) / 32 % 2 * 32 == 0) = true := by simp; omega
    clear h ht
    go_enter Try.func48, Try.ntmps48
    go_wp2
    go_ret
    exact ⟨rfl, (Below.refl _ _).alloc (Nat.le_refl _) _⟩
  · have t1 : ((tag.toNat : Int) / 32 % 2 * 32 == 0) = false := by simp; omega
    obtain rfl : bn = 0 := by omega
    clear h ht
    go_enter Try.func48, Try.ntmps48
    go_wp2
    go_ret
    exact ⟨rfl, (Below.refl _ _).alloc (Nat.le_refl _) _⟩
theorem check_bottom (pb po rn rc : Nat) (ba : Option Addr) (bn bc : Nat) (tag : UInt8) (w : World) (h0 : 0 < rn) (hct : w.cell? ⟨pb, po, none⟩ = some (.int .u8 (tag.toNat : Int))) (ht : tag.toNat / 32 % 2 ≠ 0) (hb : bn ≠ 0) :
    Calls Try.prog 48 #[.agg #[.slice (some ⟨pb, po, none⟩) rn rc, .slice ba bn bc], .int .i64 16] w (ChkPost w 10) := by
  have hand := and32 tag
  have t1 : ((tag.toNat : Int) / 32 % 2 * 32 == 0) = false := by simp; omega
  have t2 : ((bn : Int) == 0) = false := by simp; omega
  have hlt := World.block_lt_of_cell? w _ hct
  clear ht hb
  go_enter Try.func48, Try.ntmps48
  go_wp2
  go_ret
  exact ⟨rfl, (Below.refl _ _).alloc (Nat.le_refl _) _⟩
theorem check_bad (pb po rn rc : Nat) (ba : Option Addr) (bn bc : Nat) (tag : UInt8) (body : List UInt8) (d : Int) (hd : d < 16) (w : World) (h0 : 0 < rn) (hct : w.cell? ⟨pb, po, none⟩ = some (.int .u8 (tag.toNat : Int))) (ht : tag.toNat / 32 % 2 ≠ 0) (hb : bn ≠ 0)
    (hR : RB w ba bn body) (hbc : bn ≤ bc) (hn : bn ≤ 1000000000) (hc : bc ≤ 9223372036854775807) (hno : allQ body = none) :
    Calls Try.prog 48 #[.agg #[.slice (some ⟨pb, po, none⟩) rn rc, .slice ba bn bc], .int .i64 d] w (ChkPost w 9) := by
  have hand := and32 tag
  have t1 : ((tag.toNat : Int) / 32 % 2 * 32 == 0) = false := by simp; omega
  have t2 : ((bn : Int) == 0) = false := by simp; omega
  have C : Hid (∀ W, Below w.heap.size w W → Calls Try.prog 47 #[.slice ba bn bc] W fun e w' => e = .returned (.tuple #[.slice none 0 0, .int .i64 9]) ∧ Below W.heap.size W w') := fun W hw => (list_any ba bn bc body W (hR.below hw) hbc hn hc).mono fun e w' hp => by
    unfold ListPost at hp; rw [hno] at hp; exact hp
  have hlt := World.block_lt_of_cell? w _ hct
  clear ht hb hR hno
  go_enter Try.func48, Try.ntmps48
  go_wp2_with fail
  refine (C.out _ (kp_alloc (Below.refl _ _) _)).mono ?_
  rintro e w' ⟨rfl, hb⟩
  go_wp2
  go_ret
  exact ⟨rfl, kp_call (kp_alloc (Below.refl _ _) _) hb⟩
theorem check_go (k : Nat) (pb po rn rc : Nat) (ba : Option Addr) (bn bc : Nat) (tag : UInt8) (body : List UInt8) (hk : k + 1 ≤ 15) (w : World) (h0 : 0 < rn) (hct : w.cell? ⟨pb, po, none⟩ = some (.int .u8 (tag.toNat : Int))) (ht : tag.toNat / 32 % 2 ≠ 0) (hb : bn ≠ 0)
    (hR : RB w ba bn body) (hbc : bn ≤ bc) (hn : bn ≤ 1000000000) (hc : bc ≤ 9223372036854775807) (l : List (List UInt8 × List UInt8)) (hl : allQ body = some l)
    (ih : Hid (∀ (p : PV) (W : World), p.Ok W bn → Calls Try.prog 48 #[p.val, .int .i64 (16 - (k : Int))] W (ChkPost W (chk k p.raw p.body)))) :
    Calls Try.prog 48 #[.agg #[.slice (some ⟨pb, po, none⟩) rn rc, .slice ba bn bc], .int .i64 (15 - (k : Int))] w (ChkPost w (firstN (l.map fun p => chk k p.1 p.2))) := by
  have hand := and32 tag
  have t1 : ((tag.toNat : Int) / 32 % 2 * 32 == 0) = false := by simp; omega
  have t2 : ((bn : Int) == 0) = false := by simp; omega
  have C : Hid (∀ W, Below w.heap.size w W → Calls Try.prog 47 #[.slice ba bn bc] W fun e w' => (∃ (A : Option Addr) (n c : Nat) (ps : List PV), e = .returned (.tuple #[.slice A n c, .int .i64 0]) ∧ ps.map (fun p => (p.raw, p.body)) = l ∧ (∀ p ∈ ps, p.Ok W bn) ∧ OwnR w' W.heap.size 100 2 A n c (ps.flatMap PV.cells)) ∧ Below W.heap.size W w') := fun W hw => (list_any ba bn bc body W (hR.below hw) hbc hn hc).mono fun e w' hp => by
    unfold ListPost at hp; rw [hl] at hp; exact hp
  have HLL : Hid (l.length ≤ 1000000000) := by
    have := allQ_len _ body _ (Nat.le_refl _) hl
    rw [hR.1] at this
    unfold Hid; omega
  have hlt0 := World.block_lt_of_cell? w _ hct
  clear ht hb hR hl
  go_enter Try.func48, Try.ntmps48
  go_wp2_with fail
  refine (C.out _ (kp_alloc (Below.refl _ _) _)).mono ?_
  rintro e w1 ⟨⟨A, n, c, ps, rfl, hps, hok, hown⟩, hb1⟩
  have hbw1 : Below w.heap.size w w1 := kp_call (kp_alloc (Below.refl _ _) _) hb1
  have hnp : n = ps.length := by have := hown.len; rw [cells_flat] at this; omega
  have hnl : ps.length = l.length := by rw [← hps]; simp
  have HNP := Lib.hid hnp
  have HPS := Lib.hid hps
  have HOK := Lib.hid (fun p (hp : p ∈ ps) => hok p hp)
  have HOW := Lib.hid hown
  have hn2 : n ≤ 1000000000 := by have := HLL.out; omega
  have hs1 := hbw1.size
  have hdd : (15 : Int) - (k : Int) + 1 = 16 - (k : Int) := by omega
  have HB1 := Lib.hid hb1
  clear hnp hnl hps hok hown hb1
  go_wp2
  go_loopw [35] (fun i wl => ∃ (j : Nat), j ≤ n ∧ i = .int .i64 j ∧ Below w1.heap.size w1 wl ∧ Hid (∀ i p, i < j → ps[i]? = some p → chk k p.raw p.body = 0)) (fun i _ => n - (intOf i).toNat)
  case atStart => exact ⟨0, Nat.zero_le _, rfl, Below.refl _ _, fun i p hi => absurd hi (Nat.not_lt_zero _)⟩
  case round =>
    obtain ⟨j, hj, rfl, hbl, HZ⟩ := hrel
    by_cases hlt : j < n
    · obtain ⟨p, hp⟩ : ∃ p, ps[j]? = some p := ⟨_, List.getElem?_eq_getElem (by rw [← HNP.out]; exact hlt)⟩
      obtain ⟨hg0, hg1⟩ := flat_get ps p j hp
      obtain ⟨b, off, rfl, hb, hc0⟩ := HOW.out.reads.at_ hg0
      obtain ⟨b', off', e', _, hc1⟩ := HOW.out.reads.at_ hg1
      cases e'
      have d0 := kp_cell hbl hc0
      have d1 := kp_cell hbl hc1
      rw [← Nat.add_assoc] at d1
      have hpk := HOK.out p (List.mem_of_getElem? hp)
      have HP := Lib.hid hp
      have hsr := hbl.size
      have CE := Lib.hid (ih.out p (wr.alloc (.cells #[.slice p.ra p.rn p.rc, .slice p.ba p.bn p.bc] 100)) (by
        have hq : Below (w.alloc (.cells #[.slice (some ⟨pb, po, none⟩) rn rc, .slice ba bn bc] 100)).heap.size (w.alloc (.cells #[.slice (some ⟨pb, po, none⟩) rn rc, .slice ba bn bc] 100)) (wr.alloc (.cells #[.slice p.ra p.rn p.rc, .slice p.ba p.bn p.bc] 100)) := kp_alloc (HB1.out.trans (hbl.mono HB1.out.size)) _
        exact ⟨hpk.r.below hq, hpk.b.below hq, hpk.two, hpk.le, hpk.ble, hpk.cle, hpk.cc⟩))
      rw [PV.val] at CE
      have hcl := chk_le k p.raw p.body
      clear hc0 hc1 hp hg0 hg1 hpk
      generalize hx : chk k p.raw p.body = x at *
      have HX := Lib.hid hx
      clear hx
      by_cases hx0 : x = 0
      · subst hx0
        go_wp2_with fail
        refine CE.out.mono ?_
        rintro e w4 ⟨rfl, hb4⟩
        have hb14 : Below w1.heap.size w1 w4 := hbl.trans ((kp_call (kp_alloc (Below.refl _ _) _) hb4).mono hsr)
        go_wp2
        go_roundw
        case rel => exact ⟨j + 1, by omega, by go_num, hb14, fun i q hi hq => by
          rcases Nat.lt_or_ge i j with h9 | h9
          · exact HZ.out i q h9 hq
          · obtain rfl : i = j := by omega
            rw [HP.out] at hq
            cases hq
            exact HX.out⟩
        case measure => simp [intOf]; omega
      · have t9 : ((x : Int) != 0) = true := by simp; omega
        have HF : Hid (firstN (l.map fun p => chk k p.1 p.2) = x) := by
          unfold Hid
          refine firstN_at _ j x ?_ hx0 (fun i y hi hy => ?_)
          · rw [← HPS.out, List.map_map, List.getElem?_map, HP.out]
            simp [HX.out]
          · rw [← HPS.out, List.map_map, List.getElem?_map] at hy
            cases hq : ps[i]? with
            | none => rw [hq] at hy; simp at hy
            | some q =>
              rw [hq] at hy
              simp at hy
              rw [← hy]
              exact HZ.out i q hi hq
        clear hx0
        go_wp2_with fail
        refine CE.out.mono ?_
        rintro e w4 ⟨rfl, hb4⟩
        have hb14 : Below w1.heap.size w1 w4 := hbl.trans ((kp_call (kp_alloc (Below.refl _ _) _) hb4).mono hsr)
        go_wp2
        go_ret
        exact ⟨by rw [HF.out]; rfl, hbw1.trans (hb14.mono hs1)⟩
    · obtain rfl : j = n := by omega
      have HF : Hid (firstN (l.map fun p => chk k p.1 p.2) = 0) := by
        unfold Hid
        refine firstN_zero (fun x hx => ?_)
        rw [← HPS.out, List.map_map] at hx
        obtain ⟨q, hq, rfl⟩ := List.mem_map.1 hx
        obtain ⟨i, hi, hqi⟩ := List.getElem_of_mem hq
        exact HZ.out i q (by rw [HNP.out]; exact hi) (by rw [List.getElem?_eq_getElem hi, hqi])
      go_wp2
      go_ret
      exact ⟨by rw [HF.out]; rfl, hbw1.trans (hbl.mono hs1)⟩
theorem check_any (k : Nat) : ∀ (hk : k ≤ 15) (m : Nat) (hm : m ≤ 1000000000) (p : PV) (w : World) (hp : p.Ok w m), Calls Try.prog 48 #[p.val, .int .i64 (16 - (k : Int))] w (ChkPost w (chk k p.raw p.body)) := by
  induction k with
  | zero =>
    intro hk m hm p w hp
    obtain ⟨pa, rn, rc, ba, bn, bc, raw, body⟩ := p
    obtain ⟨hr, hbd, h2, hle, hble, hcl, hcc⟩ := hp
    simp only [PV.val] at *
    obtain ⟨pb, po, tag, rfl, hpb, htag, hct⟩ := hr.at_ (k := 0) (by omega)
    have hnt : nth raw 0 = tag.toNat := by unfold nth; rw [List.getD_eq_getElem?_getD, htag]; rfl
    have hbn : body = [] ↔ bn = 0 := by rw [← hbd.1]; exact List.length_eq_zero_iff.symm
    by_cases hlf : tag.toNat / 32 % 2 = 0 ∨ bn = 0
    · rw [chk_leaf 0 (by rw [hnt, hbn]; exact hlf)]
      exact check_leaf pb po rn rc ba bn bc tag _ w (by omega) hct hlf
    · rw [chk_bottom (by rw [hnt, hbn]; exact hlf)]
      exact check_bottom pb po rn rc ba bn bc tag w (by omega) hct (fun e => hlf (.inl e)) (fun e => hlf (.inr e))
  | succ k ih =>
    intro hk m hm p w hp
    obtain ⟨pa, rn, rc, ba, bn, bc, raw, body⟩ := p
    obtain ⟨hr, hbd, h2, hle, hble, hcl, hcc⟩ := hp
    simp only [PV.val] at *
    obtain ⟨pb, po, tag, rfl, hpb, htag, hct⟩ := hr.at_ (k := 0) (by omega)
    have hnt : nth raw 0 = tag.toNat := by unfold nth; rw [List.getD_eq_getElem?_getD, htag]; rfl
    have hbn : body = [] ↔ bn = 0 := by rw [← hbd.1]; exact List.length_eq_zero_iff.symm
    have hd : (16 : Int) - ((k + 1 : Nat) : Int) = 15 - (k : Int) := by omega
    by_cases hlf : tag.toNat / 32 % 2 = 0 ∨ bn = 0
    · rw [chk_leaf _ (by rw [hnt, hbn]; exact hlf)]
      exact check_leaf pb po rn rc ba bn bc tag _ w (by omega) hct hlf
    have hnl : ¬ (nth raw 0 / 32 % 2 = 0 ∨ body = []) := by rw [hnt, hbn]; exact hlf
    cases hq : allQ body with
    | none =>
      rw [chk_none hnl hq]
      exact check_bad pb po rn rc ba bn bc tag body _ (by omega) w (by omega) hct (fun e => hlf (.inl e)) (fun e => hlf (.inr e)) hbd hcl (by omega) hcc hq
    | some l =>
      rw [chk_some hnl hq, hd]
      exact check_go k pb po rn rc ba bn bc tag body hk w (by omega) hct (fun e => hlf (.inl e)) (fun e => hlf (.inr e)) hbd hcl (by omega) hcc l hq (fun p W hp => ih (by omega) bn (by omega) p W hp)
/-- What is said of bytes as one element. -/
def checkQ (bs : List UInt8) : Nat := match allQ bs with
  | some [p] => chk 15 p.1 p.2
  | _ => 9
theorem Check_any (A : Option Addr) (n c : Nat) (bs : List UInt8) (w : World) (hR : RB w A n bs) (hnc : n ≤ c) (hn : n ≤ 1000000000) (hc : c ≤ 9223372036854775807) :
    Calls Try.prog 36 #[.slice A n c] w (ChkPost w (checkQ bs)) := by
  cases hq : allQ bs with
  | none =>
    have C : Hid (Calls Try.prog 47 #[.slice A n c] w fun e w' => e = .returned (.tuple #[.slice none 0 0, .int .i64 9]) ∧ Below w.heap.size w w') := (list_any A n c bs w hR hnc hn hc).mono fun e w' hp => by
      unfold ListPost at hp; rw [hq] at hp; exact hp
    have e : checkQ bs = 9 := by unfold checkQ; rw [hq]
    rw [e]
    clear hq hR
    go_enter Try.func36, Try.ntmps36
    go_wp2_with fail
    refine C.out.mono ?_
    rintro e w' ⟨rfl, hb⟩
    go_wp2
    go_ret
    exact ⟨rfl, hb⟩
  | some l =>
    have C : Hid (Calls Try.prog 47 #[.slice A n c] w fun e w' => (∃ (A : Option Addr) (m c : Nat) (ps : List PV), e = .returned (.tuple #[.slice A m c, .int .i64 0]) ∧ ps.map (fun p => (p.raw, p.body)) = l ∧ (∀ p ∈ ps, p.Ok w n) ∧ OwnR w' w.heap.size 100 2 A m c (ps.flatMap PV.cells)) ∧ Below w.heap.size w w') := (list_any A n c bs w hR hnc hn hc).mono fun e w' hp => by
      unfold ListPost at hp; rw [hq] at hp; exact hp
    have HLL : Hid (l.length ≤ 1000000000) := by
      have := allQ_len _ bs _ (Nat.le_refl _) hq
      rw [hR.1] at this
      unfold Hid; omega
    have HQ := Lib.hid hq
    clear hq hR
    by_cases h1 : l.length = 1
    · obtain ⟨r, hl⟩ : ∃ r, l = [r] := by
        match l, h1 with
        | [r], _ => exact ⟨r, rfl⟩
      have HE : Hid (checkQ bs = chk 15 r.1 r.2) := by unfold Hid checkQ; rw [HQ.out, hl]
      have HL1 := Lib.hid hl
      clear hl h1
      go_enter Try.func36, Try.ntmps36
      go_wp2_with fail
      refine C.out.mono ?_
      rintro e w1 ⟨⟨A1, m, c1, ps, rfl, hps, hok, hown⟩, hb1⟩
      obtain ⟨p, rfl⟩ : ∃ p, ps = [p] := by
        have := congrArg List.length hps
        rw [HL1.out] at this
        match ps, this with
        | [p], _ => exact ⟨p, rfl⟩
        | [], h => simp at h
        | _ :: _ :: _, h => simp at h
      have hm1 : m = 1 := by have := hown.len; simp [PV.cells] at this; omega
      subst hm1
      obtain ⟨b, off, rfl, hb, hc0⟩ := hown.reads.at_ (j := 0) (u := .slice p.ra p.rn p.rc) rfl
      obtain ⟨b', off', e', _, hc1⟩ := hown.reads.at_ (j := 1) (u := .slice p.ba p.bn p.bc) rfl
      cases e'
      have d0 : w1.cell? ⟨b, off, none⟩ = some (.slice p.ra p.rn p.rc) := hc0
      have hpk := hok p (by simp)
      have hr : (p.raw, p.body) = r := by
        have := hps.trans HL1.out
        simpa using this
      have CE := Lib.hid (check_any 15 (by omega) n hn p w1 ⟨hpk.r.below hb1, hpk.b.below hb1, hpk.two, hpk.le, hpk.ble, hpk.cle, hpk.cc⟩)
      rw [PV.val, show (16 : Int) - ((15 : Nat) : Int) = 1 from rfl] at CE
      have hs1 := hb1.size
      have HR1 := Lib.hid hr
      have HB1 := Lib.hid hb1
      clear hps hok hown hc0 hpk hr hb1
      go_wp2_with fail
      refine CE.out.mono ?_
      rintro e w2 ⟨rfl, hb2⟩
      go_wp2
      go_ret
      refine ⟨?_, HB1.out.trans (hb2.mono hs1)⟩
      rw [HE.out, ← HR1.out]
      rfl
    · have HE : Hid (checkQ bs = 9) := by
        unfold Hid checkQ
        rw [HQ.out]
        match l, h1 with
        | [], _ => rfl
        | _ :: _ :: _, _ => rfl
      have HL1 := Lib.hid h1
      clear h1
      go_enter Try.func36, Try.ntmps36
      go_wp2_with fail
      refine C.out.mono ?_
      rintro e w1 ⟨⟨A1, m, c1, ps, rfl, hps, hok, hown⟩, hb1⟩
      have hm1 : m ≠ 1 := by
        have h9 := hown.len
        rw [cells_flat] at h9
        have := congrArg List.length hps
        simp at this
        intro e
        apply HL1.out
        omega
      have t1 : ((m : Int) != 1) = true := by simp; omega
      clear hm1 hown hps hok
      go_wp2
      go_ret
      exact ⟨by rw [HE.out]; rfl, hb1⟩
end Go.Proofs.Ytomolfdcdmncoaa
namespace Go.Proofs.Ytomolfdcdmncoaa
open Go.RowKit Go
set_option linter.unusedVariables false
set_option maxRecDepth 100000
/-- How many bytes a body has, and how many stand ahead of it. -/
def lenQ (bs : List UInt8) : Option (Nat × Nat) :=
  if bs.length < 2 then none
  else if nth bs 1 < 128 then some (nth bs 1, 2)
  else if nth bs 1 = 128 ∨ 132 < nth bs 1 ∨ bs.length < 2 + (nth bs 1 - 128) ∨ nth bs 2 = 0 then none
  else if beN ((bs.drop 2).take (nth bs 1 - 128)) < 128 then none
  else some (beN ((bs.drop 2).take (nth bs 1 - 128)), 2 + (nth bs 1 - 128))
theorem split_of_len (bs : List UInt8) : splitQ bs = match lenQ bs with
    | none => none
    | some (n, f) => if nth bs 0 % 32 = 31 ∨ bs.length - f < n then none else some (f, f + n) := by
  unfold lenQ splitQ
  by_cases h1 : bs.length < 2
  · rw [if_pos (.inl h1), if_pos h1]
  rw [if_neg h1]
  by_cases h2 : nth bs 0 % 32 = 31
  · rw [if_pos (.inr h2)]
    repeat' split
    all_goals first | rfl | (simp_all)
  rw [if_neg (by omega)]
  by_cases h3 : nth bs 1 < 128
  · rw [if_pos h3, if_pos h3]
    simp only
    by_cases h4 : nth bs 1 ≤ bs.length - 2
    · rw [if_pos h4, if_neg (by omega)]
    · rw [if_neg h4, if_pos (by omega)]
  rw [if_neg h3, if_neg h3]
  by_cases h4 : nth bs 1 = 128 ∨ 132 < nth bs 1 ∨ bs.length < 2 + (nth bs 1 - 128) ∨ nth bs 2 = 0
  · rw [if_pos h4, if_pos h4]
  rw [if_neg h4, if_neg h4]
  by_cases h5 : beN ((bs.drop 2).take (nth bs 1 - 128)) < 128
  · rw [if_pos (.inl h5), if_pos h5]
  rw [if_neg h5]
  simp only
  by_cases h6 : bs.length - 2 - (nth bs 1 - 128) < beN ((bs.drop 2).take (nth bs 1 - 128))
  · rw [if_pos (.inr h6), if_pos (by omega)]
  · rw [if_neg (by omega), if_neg (by omega)]
def LenPost (w : World) (bs : List UInt8) (e : Ending) (w' : World) : Prop :=
  (match lenQ bs with
    | some (n, f) => e = .returned (.tuple #[.int .i64 (n : Nat), .int .i64 (f : Nat), .bool true])
    | none => ∃ s t : Int, e = .returned (.tuple #[.int .i64 s, .int .i64 t, .bool false])) ∧ w = w'
theorem len_no {w : World} {bs : List UInt8} {s t : Int} (h : lenQ bs = none) : LenPost w bs (.returned (.tuple #[.int .i64 s, .int .i64 t, .bool false])) w := by
  unfold LenPost; rw [h]; exact ⟨⟨s, t, rfl⟩, rfl⟩
theorem len_yes {w : World} {bs : List UInt8} {s t : Nat} {S T : Int} (h : lenQ bs = some (s, t)) (h1 : S = (s : Int)) (h2 : T = (t : Int)) : LenPost w bs (.returned (.tuple #[.int .i64 S, .int .i64 T, .bool true])) w := by
  subst h1; subst h2
  unfold LenPost; rw [h]; exact ⟨rfl, rfl⟩
theorem len_any (A : Option Addr) (n c : Nat) (bs : List UInt8) (w : World) (hR : RB w A n bs) (hn : n ≤ 1000000000) :
    Calls Try.prog 39 #[.slice A n c] w (LenPost w bs) := by
  have hl := hR.1
  by_cases h2 : n < 2
  · have HN : Hid (lenQ bs = none) := by unfold Hid lenQ; rw [if_pos (by omega)]
    clear hR hl
    go_enter Try.func39, Try.ntmps39
    go_wp2
    go_ret3
    exact len_no HN.out
  obtain ⟨b, off, q, rfl, hb, hq, c1⟩ := hR.at_ (k := 1) (by omega)
  have n1 : nth bs 1 = q.toNat := by unfold nth; rw [List.getD_eq_getElem?_getD, hq]; rfl
  have hqb := q.toNat_lt
  have hL0 : lenQ bs = if q.toNat < 128 then some (q.toNat, 2) else if q.toNat = 128 ∨ 132 < q.toNat ∨ bs.length < 2 + (q.toNat - 128) ∨ nth bs 2 = 0 then none
      else if beN ((bs.drop 2).take (q.toNat - 128)) < 128 then none else some (beN ((bs.drop 2).take (q.toNat - 128)), 2 + (q.toNat - 128)) := by
    unfold lenQ
    rw [if_neg (by omega), n1]
  have i0 : (2 : Int) ≤ (n : Int) := by omega
  by_cases hs : q.toNat < 128
  · have HN := Lib.hid (hL0.trans (if_pos hs))
    have t1 : (q.toNat : Int) < 128 := by omega
    clear hR hl hq n1 hL0
    go_enter Try.func39, Try.ntmps39
    go_wp2
    go_ret3
    exact len_yes HN.out rfl rfl
  rw [if_neg hs] at hL0
  have t1 : (128 : Int) ≤ (q.toNat : Int) := by omega
  obtain ⟨k, hk⟩ : ∃ k : Nat, q.toNat = 128 + k := ⟨q.toNat - 128, by omega⟩
  have hqk : (q.toNat : Int) - 128 = (k : Int) := by omega
  rw [hk, show 128 + k - 128 = k by omega, hl] at hL0
  have hk8 : k < 128 := by omega
  by_cases hb1 : k < 1 ∨ 4 < k ∨ n < 2 + k
  · have HN := Lib.hid (hL0.trans (if_pos (by omega)))
    clear hR hl hq n1 hL0 hk hs hqb
    by_cases g1 : k < 1
    · clear hb1
      go_enter Try.func39, Try.ntmps39
      go_wp2
      go_ret3
      exact len_no HN.out
    by_cases g2 : 4 < k
    · clear hb1
      go_enter Try.func39, Try.ntmps39
      go_wp2
      go_ret3
      exact len_no HN.out
    · have g3 : (n : Int) < 2 + (k : Int) := by omega
      clear hb1
      go_enter Try.func39, Try.ntmps39
      go_wp2
      go_ret3
      exact len_no HN.out
  have g1 : 1 ≤ k := by omega
  have g2 : k ≤ 4 := by omega
  have g3 : (2 : Int) + (k : Int) ≤ (n : Int) := by omega
  obtain ⟨b', off', z, e', _, hz, c2⟩ := hR.at_ (k := 2) (by omega)
  cases e'
  have n2 : nth bs 2 = z.toNat := by unfold nth; rw [List.getD_eq_getElem?_getD, hz]; rfl
  rw [n2] at hL0
  by_cases hz0 : z.toNat = 0
  · have HN := Lib.hid (hL0.trans (if_pos (by omega)))
    have t2 : ((z.toNat : Int) == 0) = true := by simp; omega
    clear hR hl hq n1 hL0 hk hs hqb hb1 hz n2 hz0
    go_enter Try.func39, Try.ntmps39
    go_wp2
    go_ret3
    exact len_no HN.out
  rw [if_neg (by omega)] at hL0
  have t2 : ((z.toNat : Int) == 0) = false := by simp; omega
  have HL0 := Lib.hid hL0
  have HR := Lib.hid hR
  clear hR hl hq n1 hL0 hk hs hqb hb1 hz n2 hz0
  go_enter Try.func39, Try.ntmps39
  go_wp2
  go_loop [6, 7] (fun x i => ∃ j X : Nat, j ≤ k ∧ i = .int .i64 j ∧ x = .int .i64 X ∧ Hid (X = beN ((bs.drop 2).take j)) ∧ X < 256 ^ j) (fun _ i => k - (intOf i).toNat)
  case atStart => exact ⟨0, 0, Nat.zero_le _, rfl, rfl, rfl, by decide⟩
  case round =>
    obtain ⟨j, X, hj, rfl, rfl, HX, hX⟩ := hrel
    by_cases hlt : j < k
    · obtain ⟨b', off', y, e', _, hy, cy⟩ := HR.out.at_ (k := 2 + j) (by omega)
      cases e'
      have hX3 : X < 256 ^ 3 := Nat.lt_of_lt_of_le hX (Nat.pow_le_pow_right (by decide) (by omega))
      have hX7 : X < 16777216 := by simpa using hX3
      have hyb : (y.toNat : Int) ≤ 255 := by have := y.toNat_lt; omega
      have HN : Hid (X * 256 + y.toNat = beN ((bs.drop 2).take (j + 1))) := by
        have ht : (bs.drop 2).take (j + 1) = (bs.drop 2).take j ++ [y] := by
          rw [List.take_add_one, List.getElem?_drop, hy]; rfl
        unfold Hid
        rw [ht, beN_snoc, ← HX.out]
      have HP : Hid (X * 256 + y.toNat < 256 ^ (j + 1)) := by
        unfold Hid
        rw [Nat.pow_succ]; omega
      clear hy hX hX3
      go_wp2
      go_round
      case rel => exact ⟨j + 1, X * 256 + y.toNat, by omega, by go_num, by go_num, HN, HP.out⟩
      case measure => simp [intOf]; omega
    · obtain rfl : j = k := by omega
      have hX4 : X < 256 ^ 4 := Nat.lt_of_lt_of_le hX (Nat.pow_le_pow_right (by decide) (by omega))
      have hX5 : X < 4294967296 := by simpa using hX4
      clear hX hX4
      by_cases m1 : X < 128
      · have HN := Lib.hid (HL0.out.trans (if_pos (by rw [← HX.out]; exact m1)))
        have t3 : decide ((128 : Int) ≤ (X : Int)) = false := by simp; omega
        go_wp2
        go_ret3
        exact len_no HN.out
      · have HN := Lib.hid (HL0.out.trans (if_neg (by rw [← HX.out]; exact m1)))
        have HN2 : Hid (lenQ bs = some (X, 2 + j)) := by unfold Hid; rw [HN.out, ← HX.out]
        have t3 : decide ((128 : Int) ≤ (X : Int)) = true := by simp; omega
        go_wp2
        go_ret3
        exact len_yes HN2.out rfl (by omega)
end Go.Proofs.Ytomolfdcdmncoaa
namespace Go.Proofs.Ytomolfdcdmncoaa
open Go.RowKit Go
set_option linter.unusedVariables false
set_option maxRecDepth 100000
theorem rparse_no (A : Option Addr) (n c : Nat) (bs : List UInt8) (w : World) (hR : RB w A n bs) (hn : n ≤ 1000000000) (h : lenQ bs = none) :
    Calls Try.prog 20 #[.slice A n c] w (ParsePost w bs) := by
  have C : Hid (∀ W, Below w.heap.size w W → Calls Try.prog 39 #[.slice A n c] W fun e w' => (∃ s t : Int, e = .returned (.tuple #[.int .i64 s, .int .i64 t, .bool false])) ∧ W = w') := fun W hb => (len_any A n c bs W (hR.below hb) hn).mono fun e w' hp => by
    unfold LenPost at hp; rw [h] at hp; exact hp
  have H : Hid (splitQ bs = none) := by unfold Hid; rw [split_of_len, h]
  clear h hR
  go_enter Try.func20, Try.ntmps20
  go_wp2_with fail
  refine (C.out _ (kp_alloc (Below.refl _ _) _)).mono ?_
  rintro e w' ⟨⟨s, t, rfl⟩, rfl⟩
  have k3 : (w.alloc (.cells #[.int .u8 0, .slice none 0 0, .slice none 0 0] 46)).heap[w.heap.size]? = some (.cells #[.int .u8 0, .slice none 0 0, .slice none 0 0] 46) := has_new w _
  have hb3 : Below w.heap.size w (w.alloc (.cells #[.int .u8 0, .slice none 0 0, .slice none 0 0] 46)) := kp_alloc (Below.refl _ _) _
  generalize (w.alloc (.cells #[.int .u8 0, .slice none 0 0, .slice none 0 0] 46)) = W3 at *
  obtain ⟨f0, f1, f2⟩ := free_3 k3
  obtain ⟨e0, e1, e2⟩ := cells_3 k3
  go_wp2
  refine bodyPost_ret (results_ctt Try.results20 _ (LV.agg (set_3 k3) Try.underlying46 rfl (by kernel_rfl))) rfl ?_
  unfold ParsePost
  rw [H.out]
  exact ⟨rfl, below_3 hb3 (Nat.le_refl _)⟩
theorem rparse_bad (b off n c : Nat) (tag : UInt8) (bs : List UInt8) (w : World) (hR : RB w (some ⟨b, off, none⟩) n bs) (hn : n ≤ 1000000000) (htag : w.cell? ⟨b, off, none⟩ = some (.int .u8 (tag.toNat : Int))) (h0 : 0 < n) (m f : Nat) (h : lenQ bs = some (m, f)) (hm : m ≤ 5000000000) (hf : f ≤ 10) (hfn : f ≤ n) (hbad : tag.toNat % 32 = 31 ∨ n - f < m) (hs : splitQ bs = none) :
    Calls Try.prog 20 #[.slice (some ⟨b, off, none⟩) n c] w (ParsePost w bs) := by
  have C : Hid (∀ W, Below w.heap.size w W → Calls Try.prog 39 #[.slice (some ⟨b, off, none⟩) n c] W fun e w' => e = .returned (.tuple #[.int .i64 (m : Int), .int .i64 (f : Int), .bool true]) ∧ W = w') := fun W hb => (len_any _ n c bs W (hR.below hb) hn).mono fun e w' hp => by
    unfold LenPost at hp; rw [h] at hp; exact hp
  have H := Lib.hid hs
  have hk3 : (w.alloc (.cells #[.int .u8 0, .slice none 0 0, .slice none 0 0] 46)).heap[w.heap.size]? = some (.cells #[.int .u8 0, .slice none 0 0, .slice none 0 0] 46) := has_new w _
  have hb3 : Below w.heap.size w (w.alloc (.cells #[.int .u8 0, .slice none 0 0, .slice none 0 0] 46)) := kp_alloc (Below.refl _ _) _
  clear h hs hR
  have HT := Lib.hid htag
  clear htag
  by_cases ht : tag.toNat % 32 = 31
  · have t1 : ((tag.toNat : Int) % 32 == 31) = true := by simp; omega
    clear hbad ht
    go_enter Try.func20, Try.ntmps20
    go_wp2_with fail
    refine (C.out _ hb3).mono ?_
    rintro e w' ⟨rfl, rfl⟩
    generalize (w.alloc (.cells #[.int .u8 0, .slice none 0 0, .slice none 0 0] 46)) = W3 at *
    obtain ⟨f0, f1, f2⟩ := free_3 hk3
    obtain ⟨e0, e1, e2⟩ := cells_3 hk3
    have hct := kp_cell hb3 HT.out
    go_wp2
    refine bodyPost_ret (results_ctt Try.results20 _ (LV.agg (set_3 hk3) Try.underlying46 rfl (by kernel_rfl))) rfl ?_
    unfold ParsePost
    rw [H.out]
    exact ⟨rfl, below_3 hb3 (Nat.le_refl _)⟩
  · have t1 : ((tag.toNat : Int) % 32 == 31) = false := by simp; omega
    have t2 : (n : Int) - (f : Int) < (m : Int) := by omega
    clear hbad ht
    go_enter Try.func20, Try.ntmps20
    go_wp2_with fail
    refine (C.out _ hb3).mono ?_
    rintro e w' ⟨rfl, rfl⟩
    generalize (w.alloc (.cells #[.int .u8 0, .slice none 0 0, .slice none 0 0] 46)) = W3 at *
    obtain ⟨f0, f1, f2⟩ := free_3 hk3
    obtain ⟨e0, e1, e2⟩ := cells_3 hk3
    have hct := kp_cell hb3 HT.out
    go_wp2
    refine bodyPost_ret (results_ctt Try.results20 _ (LV.agg (set_3 hk3) Try.underlying46 rfl (by kernel_rfl))) rfl ?_
    unfold ParsePost
    rw [H.out]
    exact ⟨rfl, below_3 hb3 (Nat.le_refl _)⟩
set_option maxHeartbeats 1000000 in
theorem rparse_yes (b off n c : Nat) (tag : UInt8) (bs : List UInt8) (w : World) (hR : RB w (some ⟨b, off, none⟩) n bs) (htag : w.cell? ⟨b, off, none⟩ = some (.int .u8 (tag.toNat : Int))) (hnc : n ≤ c) (hn : n ≤ 1000000000) (hc : c ≤ 9223372036854775807) (m f : Nat) (h : lenQ bs = some (m, f)) (hf2 : 2 ≤ f) (ht : tag.toNat % 32 ≠ 31) (hfm : f + m ≤ n) (hs : splitQ bs = some (f, f + m)) (h0 : bs.getD 0 0 = tag) :
    Calls Try.prog 20 #[.slice (some ⟨b, off, none⟩) n c] w (ParsePost w bs) := by
  have C : Hid (∀ W, Below w.heap.size w W → Calls Try.prog 39 #[.slice (some ⟨b, off, none⟩) n c] W fun e w' => e = .returned (.tuple #[.int .i64 (m : Int), .int .i64 (f : Int), .bool true]) ∧ W = w') := fun W hb => (len_any _ n c bs W (hR.below hb) hn).mono fun e w' hp => by
    unfold LenPost at hp; rw [h] at hp; exact hp
  have H := Lib.hid hs
  have H0 := Lib.hid h0
  obtain ⟨SA, hSA⟩ : ∃ SA : Option Addr, (if c = f then some ⟨b, off, none⟩ else some ⟨b, off + f, none⟩) = SA := ⟨_, rfl⟩
  obtain ⟨t, ht0⟩ : ∃ t, f + m = t := ⟨_, rfl⟩
  rw [ht0] at H hfm
  have htm : (f : Int) + (m : Int) = (t : Int) := by omega
  have hmt : t - f = m := by omega
  obtain ⟨TA, hTA⟩ : ∃ TA : Option Addr, (if c = t then some ⟨b, off, none⟩ else some ⟨b, off + t, none⟩) = TA := ⟨_, rfl⟩
  have hRS := rb_cut (rb_take hR hfm) (show t ≤ c by omega) (show f ≤ t by omega)
  have hRT := rb_cut hR hnc hfm
  rw [hSA] at hRS
  rw [hTA] at hRT
  have C1 : Hid (∀ W, Below w.heap.size w W → Calls Try.prog 35 #[.slice SA (t - f) (c - f)] W (Fresh W ((bs.take t).drop f))) := fun W hb => copy_any _ _ _ _ W (hRS.below hb) (by omega)
  have C2 : Hid (∀ W, Below w.heap.size w W → Calls Try.prog 35 #[.slice (some ⟨b, off, none⟩) t c] W (Fresh W (bs.take t))) := fun W hb => copy_any _ _ _ _ W ((rb_take hR hfm).below hb) (by omega)
  have C3 : Hid (∀ W, Below w.heap.size w W → Calls Try.prog 35 #[.slice TA (n - t) (c - t)] W (Fresh W (bs.drop t))) := fun W hb => copy_any _ _ _ _ W (hRT.below hb) (by omega)
  have hk1 : (w.alloc (.cells #[.int .u8 0, .slice none 0 0, .slice none 0 0] 46)).heap[w.heap.size]? = some (.cells #[.int .u8 0, .slice none 0 0, .slice none 0 0] 46) := has_new w _
  have hb1 : Below w.heap.size w (w.alloc (.cells #[.int .u8 0, .slice none 0 0, .slice none 0 0] 46)) := kp_alloc (Below.refl _ _) _
  have HS1 : Hid ((w.alloc (.cells #[.int .u8 0, .slice none 0 0, .slice none 0 0] 46)).heap.size = w.heap.size + 1) := by unfold Hid; simp
  have HT := Lib.hid htag
  have t1 : ((tag.toNat : Int) % 32 == 31) = false := by simp; omega
  have m1 : IntKind.i64.wrap ((f : Int) + (m : Int)) = (t : Int) := by rw [htm, IntKind.wrap_i64]; omega
  have i1 : (0 : Int) ≤ (f : Int) := by omega
  have i2 : (f : Int) ≤ (t : Int) := by omega
  have i3 : (t : Int) ≤ (n : Int) := by omega
  have i4 : (n : Int) ≤ (c : Int) := by omega
  have i5 : (t : Int) ≤ (c : Int) := by omega
  have i6 : (m : Int) ≤ (n : Int) - (f : Int) := by omega
  have i7 : 0 < n := by omega
  have HMT := Lib.hid hmt
  clear h hs h0 hR htag hRS hRT ht hmt htm ht0
  go_enter Try.func20, Try.ntmps20
  go_wp2_with fail
  refine (C.out _ hb1).mono ?_
  rintro e w' ⟨rfl, rfl⟩
  generalize (w.alloc (.cells #[.int .u8 0, .slice none 0 0, .slice none 0 0] 46)) = W1 at *
  have hct := kp_cell hb1 HT.out
  go_wp2
  have G1 : GB w w.heap.size (.cells #[.int .u8 0, .slice none 0 0, .slice none 0 0] 46) W1 := ⟨hb1, hk1⟩
  have KEEP : Hid (∀ W, Below w.heap.size w W → W.cell? ⟨b, off, none⟩ = some (.int .u8 (tag.toNat : Int)) ∧ Below w.heap.size w W) := fun W h => ⟨kp_cell h HT.out, h⟩
  have HB1 := Lib.hid hb1
  clear C
  go_region_held3 (fun W => W.cell? ⟨b, off, none⟩ = some (.int .u8 (tag.toNat : Int)) ∧ Below w.heap.size w W)
    ((apply KEEP.out; repeat (with_reducible (first | assumption | refine kp_drew ?_ | refine kp_call ?_ (by assumption) | refine kp_set ?_ (Nat.le_refl _)))))
    (first
      | (go_at_call 35; (with_reducible refine (C1.out _ (by (go_split_ands; assumption))).mono ?_); (rintro e X1 ⟨A1, n1, c1, rfl, hown1, hb1⟩; have O1 := Lib.hid (hown1.lower (base' := W1.heap.size) (Nat.le_refl _)); have B1 := Lib.hid hb1; have hz1 : W1.heap.size ≤ X1.heap.size := hb1.size; clear C1 hown1))
      | (go_at_call 35; (with_reducible refine (C2.out _ (by (go_split_ands; assumption))).mono ?_); (rintro e X2 ⟨A2, n2, c2, rfl, hown2, hb2⟩; have O2 := Lib.hid hown2; have B2 := Lib.hid hb2; have hz2 := hb2.size; clear C2 hown2))
      | (go_at_call 35; (with_reducible refine (C3.out _ (by (go_split_ands; assumption))).mono ?_); (rintro e X3 ⟨A3, n3, c3, rfl, hown3, hb3⟩; have O3 := Lib.hid hown3; have B3 := Lib.hid hb3; have hz3 := hb3.size; have k3 := has_below (has_below (has_below (has_drew hk1) B1.out) B2.out) hb3; obtain ⟨f0, f1, f2⟩ := free_3 k3; obtain ⟨e0, e1, e2⟩ := cells_3 k3; clear C3 hown3)))
  have hs0 := HS1.out
  go_wp2
  refine bodyPost_ret (results_ctt Try.results20 _ (LV.agg (set_3 k3) Try.underlying46 rfl (by kernel_rfl))) rfl ?_
  unfold ParsePost
  rw [H.out, H0.out]
  have q12 := O1.out.below B2.out (Nat.le_refl _)
  have q13 := q12.below B3.out (Nat.le_refl _)
  have q23 := O2.out.below B3.out (Nat.le_refl _)
  refine ⟨⟨A1, n1, c1, A2, n2, c2, A3, n3, c3, rfl, ?_, ?_, ?_, blk_ne O1.out O2.out (Nat.le_refl _), blk_ne q12 O3.out (Nat.le_refl _), blk_ne O2.out O3.out (Nat.le_refl _)⟩, ?_⟩
  · exact (q13.far (grown_3 _ _) (by omega)).lower (by omega)
  · exact (q23.far (grown_3 _ _) (by omega)).lower (by omega)
  · exact (O3.out.far (grown_3 _ _) (by omega)).lower (by omega)
  · go_split_ands
    assumption
theorem lenQ_le {bs : List UInt8} {m f : Nat} (h : lenQ bs = some (m, f)) : 2 ≤ f ∧ f ≤ 6 ∧ f ≤ bs.length ∧ m < 4294967296 := by
  unfold lenQ at h
  split at h; cases h
  split at h
  · simp at h; omega
  split at h; cases h
  rename_i h3 h4
  split at h; cases h
  simp only [Option.some.injEq, Prod.mk.injEq] at h
  obtain ⟨rfl, rfl⟩ := h
  have hl : ((bs.drop 2).take (nth bs 1 - 128)).length = nth bs 1 - 128 := by rw [List.length_take, List.length_drop]; omega
  have := beN_lt _ _ hl
  have h2 : (256 : Nat) ^ (nth bs 1 - 128) ≤ 256 ^ 4 := Nat.pow_le_pow_right (by decide) (by omega)
  have h3 : (256 : Nat) ^ 4 = 4294967296 := by decide
  omega
theorem rparse_any (A : Option Addr) (n c : Nat) (bs : List UInt8) (w : World) (hR : RB w A n bs) (hnc : n ≤ c) (hn : n ≤ 1000000000) (hc : c ≤ 9223372036854775807) :
    Calls Try.prog 20 #[.slice A n c] w (ParsePost w bs) := by
  cases h : lenQ bs with
  | none => exact rparse_no A n c bs w hR hn h
  | some p =>
    obtain ⟨m, f⟩ := p
    have hle := lenQ_le h
    have hl := hR.1
    obtain ⟨b, off, d, rfl, _, hd, c0⟩ := hR.at_ (k := 0) (by omega)
    have n0 : nth bs 0 = d.toNat := by unfold nth; rw [List.getD_eq_getElem?_getD, hd]; rfl
    have hs := split_of_len bs
    rw [h] at hs
    simp only [n0, hl] at hs
    by_cases hbad : d.toNat % 32 = 31 ∨ n - f < m
    · rw [if_pos hbad] at hs
      exact rparse_bad b off n c d bs w hR hn c0 (by omega) m f h (by omega) (by omega) (by omega) hbad hs
    · rw [if_neg hbad] at hs
      exact rparse_yes b off n c d bs w hR c0 hnc hn hc m f h (by omega) (by omega) (by omega) hs (by rw [List.getD_eq_getElem?_getD, hd]; rfl)
end Go.Proofs.Ytomolfdcdmncoaa
namespace Go.Proofs.Ytomolfdcdmncoaa
open Go.RowKit Go
set_option linter.unusedVariables false
set_option maxRecDepth 100000
theorem oidQ_840 : oidQ [42, 134, 72] = some [1, 2, 840] := by
  have h1 : numQ [42, 134, 72] = some (42, 1) := by decide
  have h2 : numQ [134, 72] = some (840, 2) := by decide
  unfold oidQ
  rw [numsQ_some h1]
  show (match (numsQ [134, 72]).map (42 :: ·) with | some (x :: r) => some (arcs (x :: r)) | _ => none) = _
  rw [numsQ_some h2]
  show (match ((numsQ []).map (840 :: ·)).map (42 :: ·) with | some (x :: r) => some (arcs (x :: r)) | _ => none) = _
  rw [numsQ_nil]
  rfl
theorem checkQ_30 : checkQ [48, 2, 48, 0] = 0 := by
  have h1 : splitQ [48, 2, 48, 0] = some (2, 4) := by decide
  have h2 : splitQ [48, 0] = some (2, 2) := by decide
  have e2 : allQ [48, 0] = some [([48, 0], [])] := by
    rw [allQ_some h2]
    show (allQ []).map _ = _
    rw [allQ_nil]
    rfl
  unfold checkQ
  rw [allQ_some h1]
  show (match (allQ []).map ((([48, 2, 48, 0] : List UInt8), ([48, 0] : List UInt8)) :: ·) with | some [p] => chk 15 p.1 p.2 | _ => 9) = 0
  rw [allQ_nil]
  show chk 15 [48, 2, 48, 0] [48, 0] = 0
  rw [chk_some (by decide) e2]
  show firstN [chk 14 [48, 0] []] = 0
  rw [chk_leaf 14 (.inr rfl)]
  rfl
theorem wr_200 : (wrQ 4 (List.replicate 200 0)).length = 203 := by
  have h1 : lenB 200 = [200] := by rw [lenB_pos (by omega), show 200 / 256 = 0 from rfl, lenB_zero]; rfl
  have h2 : (List.replicate 200 (0 : UInt8)).length = 200 := by simp
  unfold wrQ
  rw [h2, if_neg (by omega), h1]
  simp
section
variable {w : World} {ops : Array Oper} {rest : List Oper} {o : Oper} {a : Act} {Q : Exit → Act → World → Prop}
/-- 'make([]byte, n)' behind a guard that holds. -/
theorem wpList_mkw (l c : Operand) (ho : o.op = .makeSlice 22 l c) (hw : Region.wanted o (yielded ops a.tmps) = true) (kl kc : IntKind) (n : Nat) (hl : a.eval l = .int kl (n : Int)) (hc : a.eval c = .int kc (n : Int)) (hlim : n ≤ 140737488355328)
    (h : ∀ w', OwnB w' w.heap.size (some ⟨w.heap.size, 0, none⟩) n n (List.replicate n 0) → w.grownBy w' none → wpList Try.prog ops Q rest (a.put o.dst (.slice (some ⟨w.heap.size, 0, none⟩) n n)) w') : wpList Try.prog ops Q (o :: rest) a w := by
  obtain ⟨i, hi, hz0, hz1, hz2⟩ := info_parts u8_info
  obtain ⟨w', hrun, r1, r2⟩ := run_make_full (P := Try.prog) w w.heap.size 22 5 i (.int .u8 0) 1 Try.underlying22 hi hz0 hz1 kl kc n (by rw [hz2]; omega) (by unfold maxLen; omega) (Nat.le_refl _)
  refine wpList_step fun K hK => ?_
  rw [if_pos hw]
  unfold Oper.wp
  simp [execOp, ho, hl, hc, hrun, Result.andThen]
  refine hK _ _ (h w' ?_ r2)
  unfold OwnB
  rw [Nat.mul_one] at r1
  rw [show (Value.int .u8 0).cells = #[.int .u8 0] from rfl, toList_madeCells_one] at r1
  rw [List.map_replicate]
  exact r1
end
theorem own_bytes (w : World) (bs : List UInt8) (n : Nat) (cs : Array Value) (h : cs.toList = bs.map bv) (hn : bs.length = n) (hm : n ≤ 1000000) : RB (w.alloc (.cells cs 5)) (some ⟨w.heap.size, 0, none⟩) n bs := (own_lit w bs n cs h hn hm).rb
end Go.Proofs.Ytomolfdcdmncoaa
