/-
  der: Parse.
-/
import Derived.Test.YtamkbedbkjndgaaDrE
import Derived.Test.YtamkbedbkjndgaaDrT
import Derived.Test.YtamkbedbkjndgaaDrO
namespace Go.Proofs.Ytamkbedbkjndgaa
open Go.RowKit Go
set_option linter.unusedVariables false
set_option maxRecDepth 100000
def elZ : Value := .agg #[.int .u8 0, .slice none 0 0, .slice none 0 0]
/-- What Parse answers. -/
def ParsePost (w : World) (bs : List UInt8) (e : Ending) (w' : World) : Prop :=
  (match splitQ bs with
    | none => e = .returned (.tuple #[elZ, .slice none 0 0, .int .i64 9])
    | some (s, t) => ∃ A1 n1 c1 A2 n2 c2 A3 n3 c3, e = .returned (.tuple #[.agg #[.int .u8 ((bs.getD 0 0).toNat : Int), .slice A1 n1 c1, .slice A2 n2 c2], .slice A3 n3 c3, .int .i64 0]) ∧
        OwnB w' w.heap.size A1 n1 c1 ((bs.take t).drop s) ∧ OwnB w' w.heap.size A2 n2 c2 (bs.take t) ∧ OwnB w' w.heap.size A3 n3 c3 (bs.drop t) ∧
        (blk A1 = none ∨ blk A1 ≠ blk A2) ∧ (blk A1 = none ∨ blk A1 ≠ blk A3) ∧ (blk A2 = none ∨ blk A2 ≠ blk A3)) ∧ Below w.heap.size w w'
theorem parse_no (A : Option Addr) (n c : Nat) (bs : List UInt8) (w : World) (hR : RB w A n bs) (hnc : n ≤ c) (hn : n ≤ 140737488355328) (h : splitQ bs = none) :
    Calls Try.prog 24 #[.slice A n c] w (ParsePost w bs) := by
  have C : Hid (∀ W, Below w.heap.size w W → Calls Try.prog 45 #[.slice A n c] W fun e w' => (∃ s t : Int, e = .returned (.tuple #[.int .i64 s, .int .i64 t, .bool false])) ∧ ∃ k, w' = W.drewN k) := fun W hb => (split_any A n c bs W (hR.below hb) hnc hn).mono fun e w' hp => by
    unfold SplitPost at hp; rw [h] at hp; exact hp
  have H := Lib.hid h
  clear h hR
  go_enter Try.func24, Try.ntmps24
  go_wp2_with fail
  refine (C.out _ (kp_alloc (Below.refl _ _) _)).mono ?_
  rintro e w' ⟨⟨s, t, rfl⟩, k, rfl⟩
  have k3 : ((w.alloc (.cells #[.int .u8 0, .slice none 0 0, .slice none 0 0] 43)).drewN k).heap[w.heap.size]? = some (.cells #[.int .u8 0, .slice none 0 0, .slice none 0 0] 43) := has_new w _
  have hb3 : Below w.heap.size w ((w.alloc (.cells #[.int .u8 0, .slice none 0 0, .slice none 0 0] 43)).drewN k) := kp_drewN (kp_alloc (Below.refl _ _) _) k
  generalize ((w.alloc (.cells #[.int .u8 0, .slice none 0 0, .slice none 0 0] 43)).drewN k) = W3 at *
  obtain ⟨f0, f1, f2⟩ := free_3 k3
  obtain ⟨e0, e1, e2⟩ := cells_3 k3
  go_wp2
  refine bodyPost_ret (results_ctt Try.results24 _ (LV.agg (set_3 k3) Try.underlying43 rfl (by kernel_rfl))) rfl ?_
  unfold ParsePost
  rw [H.out]
  exact ⟨rfl, below_3 hb3 (Nat.le_refl _)⟩
set_option maxHeartbeats 1000000 in
theorem parse_yes (b off n c : Nat) (tag : UInt8) (bs : List UInt8) (w : World) (hR : RB w (some ⟨b, off, none⟩) n bs) (htag : w.cell? ⟨b, off, none⟩ = some (.int .u8 (tag.toNat : Int))) (hnc : n ≤ c) (hn : n ≤ 1000000000) (hc : c ≤ 9223372036854775807) (s t : Nat) (h : splitQ bs = some (s, t)) (h0 : bs.getD 0 0 = tag) :
    Calls Try.prog 24 #[.slice (some ⟨b, off, none⟩) n c] w (ParsePost w bs) := by
  obtain ⟨hs2, hst, htn⟩ := splitQ_le h
  rw [hR.1] at htn
  have C : Hid (∀ W, Below w.heap.size w W → Calls Try.prog 45 #[.slice (some ⟨b, off, none⟩) n c] W fun e w' => e = .returned (.tuple #[.int .i64 (s : Int), .int .i64 (t : Int), .bool true]) ∧ ∃ k, w' = W.drewN k) := fun W hb => (split_any _ n c bs W (hR.below hb) hnc (by omega)).mono fun e w' hp => by
    unfold SplitPost at hp; rw [h] at hp; exact hp
  have H := Lib.hid h
  have H0 := Lib.hid h0
  obtain ⟨SA, hSA⟩ : ∃ SA : Option Addr, (if c = s then some ⟨b, off, none⟩ else some ⟨b, off + s, none⟩) = SA := ⟨_, rfl⟩
  obtain ⟨TA, hTA⟩ : ∃ TA : Option Addr, (if c = t then some ⟨b, off, none⟩ else some ⟨b, off + t, none⟩) = TA := ⟨_, rfl⟩
  have hRS := rb_cut (rb_take hR htn) (show t ≤ c by omega) hst
  have hRT := rb_cut hR hnc htn
  rw [hSA] at hRS
  rw [hTA] at hRT
  have CE : Hid (∀ W, Below w.heap.size w W → Calls Try.prog 33 #[.agg #[.slice (some ⟨b, off, none⟩) t c, .slice SA (t - s) (c - s)]] W (ElemPost W tag ((bs.take t).drop s) (bs.take t))) := fun W hb =>
    elem_any b off t c _ (t - s) (c - s) tag (bs.take t) ((bs.take t).drop s) W ((rb_take hR htn).below hb) (by omega) (kp_cell hb htag) (hRS.below hb) (by omega) (by omega)
  have JR : Hid (∀ W g, Below w.heap.size w W → W.heap[g]? = some (.cells #[.slice TA (n - t) (c - t)] 22) → Calls Try.prog 25 #[.slice (some ⟨g, 0, none⟩) 1 1] W (Fresh W (bs.drop t))) := fun W g hb hg => by
    have := joinsH_any [(_, n - t, c - t, bs.drop t)] 1 #[.slice TA (n - t) (c - t)] _ _ W g hg rfl (by omega) rfl (by intro x hx; simp at hx; subst hx; exact hRT.below hb) (by have := hRT.1; simp at this ⊢; omega)
    simpa using this
  clear h h0 hR htag hRS hRT
  go_enter Try.func24, Try.ntmps24
  go_wp2_with fail
  refine (C.out _ (kp_alloc (Below.refl _ _) _)).mono ?_
  rintro e w' ⟨rfl, k, rfl⟩
  have k1 : ((w.alloc (.cells #[.int .u8 0, .slice none 0 0, .slice none 0 0] 43)).drewN k).heap[w.heap.size]? = some (.cells #[.int .u8 0, .slice none 0 0, .slice none 0 0] 43) := has_new w _
  have hb1 : Below w.heap.size w ((w.alloc (.cells #[.int .u8 0, .slice none 0 0, .slice none 0 0] 43)).drewN k) := kp_drewN (kp_alloc (Below.refl _ _) _) k
  have hs1 : ((w.alloc (.cells #[.int .u8 0, .slice none 0 0, .slice none 0 0] 43)).drewN k).heap.size = w.heap.size + 1 := by show (w.alloc _).heap.size = _; simp
  generalize ((w.alloc (.cells #[.int .u8 0, .slice none 0 0, .slice none 0 0] 43)).drewN k) = W1 at *
  have i1 : (0 : Int) ≤ (s : Int) := by omega
  have i2 : (s : Int) ≤ (t : Int) := by omega
  have i3 : (t : Int) ≤ (n : Int) := by omega
  have i4 : (n : Int) ≤ (c : Int) := by omega
  have i5 : (t : Int) ≤ (c : Int) := by omega
  have G1 : GB w w.heap.size (.cells #[.int .u8 0, .slice none 0 0, .slice none 0 0] 43) W1 := ⟨hb1, k1⟩
  have HS1 := Lib.hid hs1
  clear hs1
  go_wp2
  have hne : w.heap.size ≠ W1.heap.size := by rw [HS1.out]; omega
  have hle : w.heap.size ≤ W1.heap.size := by rw [HS1.out]; omega
  go_region_held3 (fun W => GB w w.heap.size (.cells #[.int .u8 0, .slice none 0 0, .slice none 0 0] 43) W)
    ((repeat (with_reducible (first | assumption | refine GB.drew ?_ | refine GB.alloc ?_ _ | refine GB.set ?_ (by assumption) (by assumption)))))
    (fail)
  go_wp2
  refine wp_nm fun W2 hW2 => ?_
  have k2 : W2.heap[w.heap.size]? = some (.cells #[.int .u8 0, .slice none 0 0, .slice none 0 0] 43) := by go_split_ands; rw [← hW2]; exact GB.h (by assumption)
  have k8 : W2.heap[W1.heap.size]? = some (.cells #[.slice (some ⟨b, off, none⟩) t c, .slice SA (t - s) (c - s)] 60) := by rw [← hW2]; exact has_new' W1 _ _ rfl
  have hb2 : Below w.heap.size w W2 := by go_split_ands; rw [← hW2]; exact GB.b (by assumption)
  have hs2 : W2.heap.size = W1.heap.size + 1 := by rw [← hW2]; simp
  have G2 : GB w W1.heap.size (.cells #[.slice (some ⟨b, off, none⟩) t c, .slice SA (t - s) (c - s)] 60) W2 := ⟨hb2, k8⟩
  have KEEP : Hid (∀ W, GB w W1.heap.size (.cells #[.slice (some ⟨b, off, none⟩) t c, .slice SA (t - s) (c - s)] 60) W → (W.cell? ⟨W1.heap.size, 0, none⟩ = some (.slice (some ⟨b, off, none⟩) t c) ∧ W.cell? ⟨W1.heap.size, 1, none⟩ = some (.slice SA (t - s) (c - s))) ∧ GB w W1.heap.size (.cells #[.slice (some ⟨b, off, none⟩) t c, .slice SA (t - s) (c - s)] 60) W) :=
    fun W h => ⟨cells_2 h.h, h⟩
  have HB2 := Lib.hid hb2
  have HS2 := Lib.hid hs2
  have hne2 : W1.heap.size ≠ w.heap.size := fun e => hne e.symm
  clear hW2 hs2 hb1 hb2 k1 G1 k8
  go_region_held3 (fun W => (W.cell? ⟨W1.heap.size, 0, none⟩ = some (.slice (some ⟨b, off, none⟩) t c) ∧ W.cell? ⟨W1.heap.size, 1, none⟩ = some (.slice SA (t - s) (c - s))) ∧ GB w W1.heap.size (.cells #[.slice (some ⟨b, off, none⟩) t c, .slice SA (t - s) (c - s)] 60) W)
    ((apply KEEP.out; repeat (with_reducible (first | assumption | refine GB.drew ?_ | refine GB.alloc ?_ _ | refine GB.call ?_ (by assumption) | refine GB.set ?_ (Nat.le_refl _) (by assumption)))))
    (first
      | (go_at_call 33; (with_reducible refine (CE.out _ (by (go_split_ands; exact GB.b (by assumption)))).mono ?_); (rintro e X1 ⟨A1, n1, c1, A2, n2, c2, rfl, hown1, hown2, hneq, hb1⟩; have B01 := Lib.hid (show Below W2.heap.size W2 X1 from (by repeat (with_reducible (first | exact Below.refl _ _ | refine kp_drew ?_ | refine kp_alloc ?_ _ | refine kp_call ?_ (by assumption))))); have hz1 := B01.out.size; have O1 := Lib.hid (hown1.lower (base' := W1.heap.size + 1) (by simp [HS2.out])); have O2 := Lib.hid (hown2.lower (base' := W1.heap.size + 1) (by simp [HS2.out])); have HNE := Lib.hid hneq; clear CE hown1 hown2 hneq))
      | (go_at_call 25; (with_reducible refine (JR.out _ _ (by (go_split_ands; exact GB.b (by assumption))) (by (repeat (with_reducible (first | assumption | exact has_new' _ _ _ (by simp) | refine has_drew ?_ | refine has_alloc ?_ _ | refine has_below ?_ (by assumption)))))).mono ?_); (rintro e X2 ⟨A3, n3, c3, rfl, hown3, hb3⟩; have O3 := Lib.hid (hown3.lower (base' := X1.heap.size) (by simp)); have k3 : X2.heap[w.heap.size]? = some (.cells #[.int .u8 0, .slice none 0 0, .slice none 0 0] 43) := (by (repeat (with_reducible (first | assumption | exact has_new' _ _ _ (by simp) | refine has_drew ?_ | refine has_alloc ?_ _ | refine has_below ?_ (by assumption))))); have B12 : Below X1.heap.size X1 X2 := (by repeat (with_reducible (first | exact Below.refl _ _ | refine kp_drew ?_ | refine kp_alloc ?_ _ | refine kp_call ?_ (by assumption)))); obtain ⟨f0, f1, f2⟩ := free_3 k3; obtain ⟨e0, e1, e2⟩ := cells_3 k3; clear JR hown3)))
  all_goals
    have hs0 := HS2.out
    have hz2 := B12.size
    go_wp2
    refine bodyPost_ret (results_ctt Try.results24 _ (LV.agg (set_3 k3) Try.underlying43 rfl (by kernel_rfl))) rfl ?_
    unfold ParsePost
    rw [H.out, H0.out]
    refine ⟨⟨A1, n1, c1, A2, n2, c2, A3, n3, c3, rfl, ?_, ?_, ?_, HNE.out, blk_ne O1.out O3.out (Nat.le_refl _), blk_ne O2.out O3.out (Nat.le_refl _)⟩, ?_⟩
    · exact ((O1.out.below B12 (Nat.le_refl _)).far (grown_3 _ _) (by omega)).lower (by omega)
    · exact ((O2.out.below B12 (Nat.le_refl _)).far (grown_3 _ _) (by omega)).lower (by omega)
    · exact (O3.out.far (grown_3 _ _) (by omega)).lower (by omega)
    · go_split_ands
      exact GB.b (by assumption)
theorem parse_any (A : Option Addr) (n c : Nat) (bs : List UInt8) (w : World) (hR : RB w A n bs) (hnc : n ≤ c) (hn : n ≤ 1000000000) (hc : c ≤ 9223372036854775807) :
    Calls Try.prog 24 #[.slice A n c] w (ParsePost w bs) := by
  cases h : splitQ bs with
  | none => exact parse_no A n c bs w hR hnc (by omega) h
  | some p =>
    obtain ⟨s, t⟩ := p
    have hle := splitQ_le h
    have hl := hR.1
    obtain ⟨b, off, d, rfl, _, hd, c0⟩ := hR.at_ (k := 0) (by omega)
    exact parse_yes b off n c d bs w hR c0 hnc hn hc s t h (by rw [List.getD_eq_getElem?_getD, hd]; rfl)
end Go.Proofs.Ytamkbedbkjndgaa
