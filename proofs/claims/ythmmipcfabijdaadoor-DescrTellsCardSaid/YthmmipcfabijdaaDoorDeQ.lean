/-
  descr: the document's Read.
-/
import Derived.Test.YthmmipcfabijdaaDoorDeP
namespace Go.Proofs.YthmmipcfabijdaaDoor
open Go.RowKit Go
set_option linter.unusedVariables false
set_option maxRecDepth 100000
theorem dR_short {bs : List UInt8} (h : bs.length < 41) : dR bs = none := by
  unfold dR
  by_cases h40 : bs.length < 40
  · rw [if_pos h40]
  rw [if_neg h40]
  cases readO (cut bs 0 16) with
  | none => rfl
  | some u =>
    simp only
    by_cases hz : u = Tm.zero
    · rw [if_pos hz]
    rw [if_neg hz, if_neg (fun h => by have := h.2.1; have := h.2.2.2; omega)]
theorem dR_noread {bs : List UInt8} (h : readO (cut bs 0 16) = none) : dR bs = none := by
  unfold dR
  by_cases h40 : bs.length < 40
  · rw [if_pos h40]
  rw [if_neg h40, h]
theorem dR_nosize {bs : List UInt8} (h : leN (cut bs 16 4) < 25 ∨ bs.length < 16 + leN (cut bs 16 4)) : dR bs = none := by
  unfold dR
  by_cases h40 : bs.length < 40
  · rw [if_pos h40]
  rw [if_neg h40]
  cases readO (cut bs 0 16) with
  | none => rfl
  | some u =>
    simp only
    by_cases hz : u = Tm.zero
    · rw [if_pos hz]
    rw [if_neg hz, if_neg (fun h9 => by have := h9.2.1; have := h9.2.2.2; omega)]
/-- What is taken leniently and written again is what is read. -/
theorem dR_again {bs : List UInt8} {u : Tm} (h41 : 41 ≤ bs.length) (hu : readO (cut bs 0 16) = some u) (h1 : 25 ≤ leN (cut bs 16 4)) (h2 : 16 + leN (cut bs 16 4) ≤ bs.length) :
    dR bs = if okW u (leN (cut bs 16 4) - 24) = true ∧ dW u (cut bs 40 (leN (cut bs 16 4) - 24)) (bs.drop (16 + leN (cut bs 16 4))) = bs then some (u, cut bs 40 (leN (cut bs 16 4) - 24), bs.drop (16 + leN (cut bs 16 4))) else none := by
  obtain ⟨_, r1, r2, r3⟩ := readO_some hu
  have hl : (cut bs 40 (leN (cut bs 16 4) - 24)).length = leN (cut bs 16 4) - 24 := cut_len _ _ _ (by omega)
  unfold dR
  rw [if_neg (by omega), hu]
  simp only
  by_cases hz : u = Tm.zero
  · rw [if_pos hz, if_neg (fun h => by have := (okW_true h.1).1; rw [hz, right_zero] at this; cases this)]
  rw [if_neg hz]
  have hr : rightB u = true := r1.resolve_right hz
  have key : (cut bs 20 20 = marksL ∧ 25 ≤ leN (cut bs 16 4) ∧ leN (cut bs 16 4) ≤ 65560 ∧ 16 + leN (cut bs 16 4) ≤ bs.length) ↔ (okW u (leN (cut bs 16 4) - 24) = true ∧ dW u (cut bs 40 (leN (cut bs 16 4) - 24)) (bs.drop (16 + leN (cut bs 16 4))) = bs) := by
    constructor
    · rintro ⟨k1, k2, k3, k4⟩
      have hd : dR bs = some (u, cut bs 40 (leN (cut bs 16 4) - 24), bs.drop (16 + leN (cut bs 16 4))) := by
        unfold dR
        rw [if_neg (by omega), hu]
        simp only
        rw [if_neg hz, if_pos ⟨k1, k2, k3, k4⟩]
      obtain ⟨_, z2, z3, z4, _⟩ := dR_some hd
      refine ⟨?_, z4⟩
      unfold okW
      rw [hr, decide_eq_true ⟨by omega, by omega⟩]
      rfl
    · rintro ⟨k1, k2⟩
      have hk := okW_true k1
      refine ⟨?_, h1, by omega, h2⟩
      have h9 := dW_20 u (cut bs 40 (leN (cut bs 16 4) - 24)) (bs.drop (16 + leN (cut bs 16 4)))
      rw [k2] at h9
      exact h9
  by_cases hc : okW u (leN (cut bs 16 4) - 24) = true ∧ dW u (cut bs 40 (leN (cut bs 16 4) - 24)) (bs.drop (16 + leN (cut bs 16 4))) = bs
  · rw [if_pos hc, if_pos (key.2 hc)]
  · rw [if_neg hc, if_neg (fun h => hc (key.1 h))]
set_option maxHeartbeats 6400000 in
theorem rr_a (A : Option Addr) (n c : Nat) (bs : List UInt8) (w : World) (hR : RB w A n bs) (hc : n ≤ c) (hc2 : c ≤ 9223372036854775807) (hn : n ≤ 1000000) (h41 : n < 41) :
    Calls Tryd.prog 10 #[.slice A n c] w (DReadPost w bs) := by
  have hq := dR_short (bs := bs) (by rw [hR.1]; exact h41)
  have hq1 : decide ((n : Int) < 41) = true := decide_eq_true (by omega)
  have HF := Lib.hid (dread_none (w := w) hq (((Below.refl _ _).alloc (Nat.le_refl _) (.cells #[.int .u16 0, .int .u8 0, .int .u8 0, .int .u8 0, .int .u8 0, .int .u8 0] 25)).alloc (by simp) (.cells #[.int .u16 0, .int .u8 0, .int .u8 0, .int .u8 0, .int .u8 0, .int .u8 0] 25)))
  clear hq hR
  go_enter Tryd.func10, Tryd.ntmps10
  go_wp2
  refine bodyPost_ret (results_de rfl _ _ _ _ _ _ _ _ _ rfl (heap_alloc2_old w _ _)) rfl ?_
  exact HF.out
set_option maxHeartbeats 6400000 in
theorem rr_b (A : Option Addr) (n c : Nat) (bs : List UInt8) (w : World) (hR : RB w A n bs) (hc : n ≤ c) (hc2 : c ≤ 9223372036854775807) (hn : n ≤ 1000000) (h41 : 41 ≤ n) (hro : readO (cut bs 0 16) = none) :
    Calls Tryd.prog 10 #[.slice A n c] w (DReadPost w bs) := by
  have hq := dR_noread hro
  have HLEN := Lib.hid hR.1
  have q0 : decide ((n : Int) < 41) = false := decide_eq_false (by omega)
  have hrd : Hid (∀ W, Below w.heap.size w W → RB W A 16 (cut bs 0 16)) := fun W hb => ⟨cut_len _ _ _ (by rw [hR.1]; omega), by have := (hR.below hb).2.take_ 16; simpa [cut] using this⟩
  have GL := Lib.hid (fun W (hb : Below w.heap.size w W) => refGet_ok A n c bs 16 4 W (hR.below hb) hc hc2 rfl (by omega))
  have SR := fun W (hb : Below w.heap.size w W) c' => rread_any A 16 c' (cut bs 0 16) W (hrd W hb)
  rw [hro] at SR
  simp only [readV, Option.getD_none, Option.isSome_none, tmV, Tm.cells, Tm.zero] at SR
  have SR := Lib.hid SR
  generalize leN (cut bs 16 4) = lv at *
  clear hro hrd hR
  go_enter Tryd.func10, Tryd.ntmps10
  go_wp2_with fail
  refine calls_named fun w0 hw0 => ?_
  have hbw0 : Below w.heap.size w w0 := by subst hw0; exact ((Below.refl _ _).alloc (Nat.le_refl _) _).alloc (by simp) _
  have hs0 := hbw0.size
  have k0 : w0.heap[w.heap.size]? = some (.cells #[.int .u16 0, .int .u8 0, .int .u8 0, .int .u8 0, .int .u8 0, .int .u8 0] 25) := by subst hw0; exact heap_alloc2_old w _ _
  have q0' : w0.heap[w.heap.size + 1]? = some (.cells #[.int .u16 0, .int .u8 0, .int .u8 0, .int .u8 0, .int .u8 0, .int .u8 0] 25) := by subst hw0; exact heap_alloc2_new w _ _
  clear hw0
  have q0 := q0'
  clear q0'
  refine (SR.out w0 hbw0 _).mono ?_
  intro e w1 hw1
  obtain ⟨rfl, hb1⟩ := hw1
  have hbw1 := hbw0.trans (hb1.mono hs0)
  have hs1 := hbw1.size
  have k1 := (hb1.block _ (heap_lt k0)).trans k0
  have q1 := (hb1.block _ (heap_lt q0)).trans q0
  have hz1 : w0.heap.size ≤ w1.heap.size := hb1.size
  clear hb1 k0 q0
  go_wp2_with fail
  refine calls_named fun w2 hw2 => ?_
  have hb2 : Below w1.heap.size w1 w2 := by subst hw2; exact (Below.refl _ _).alloc (Nat.le_refl _) _
  have v2 : w2.heap[w1.heap.size]? = some (.cells #[.int .u16 0, .int .u8 0, .int .u8 0, .int .u8 0, .int .u8 0, .int .u8 0] 25) := by subst hw2; exact heap_alloc_new w1 _
  clear hw2
  have hbw2 := hbw1.trans (hb2.mono hs1)
  have hs2 := hbw2.size
  have k2 := (hb2.block _ (heap_lt k1)).trans k1
  have q2 := (hb2.block _ (heap_lt q1)).trans q1
  have hz2 : w1.heap.size ≤ w2.heap.size := hb2.size
  clear hb2 k1 q1
  refine (GL.out w2 hbw2).mono ?_
  intro e w3 hw3
  obtain ⟨rfl, hb3⟩ := hw3
  have hbw3 := hbw2.trans (hb3.mono hs2)
  have hs3 := hbw3.size
  have k3 := (hb3.block _ (heap_lt k2)).trans k2
  have q3 := (hb3.block _ (heap_lt q2)).trans q2
  have v3 := (hb3.block _ (heap_lt v2)).trans v2
  have hz3 : w2.heap.size ≤ w3.heap.size := hb3.size
  clear hb3 k2 q2 v2
  obtain ⟨a0, a1, a2, a3, a4, a5⟩ := cells6 q3
  obtain ⟨b0, b1, b2, b3, b4, b5⟩ := cells6 k3
  obtain ⟨f0, f1, f2, f3, f4, f5⟩ := free6 k3
  have HF := Lib.hid (dread_none (w := w) hq (below6 (v0 := .int .u16 0) (v1 := .int .u8 0) (v2 := .int .u8 0) (v3 := .int .u8 0) (v4 := .int .u8 0) (v5 := .int .u8 0) hbw3 (Nat.le_refl _)))
  have HZ := Lib.hid (set6 (v0 := .int .u16 0) (v1 := .int .u8 0) (v2 := .int .u8 0) (v3 := .int .u8 0) (v4 := .int .u8 0) (v5 := .int .u8 0) k3)
  clear hq hbw3 k3 q3
  go_wp2
  refine bodyPost_ret (results_de rfl _ _ _ _ _ _ _ _ _ rfl HZ.out) rfl ?_
  exact HF.out
set_option maxHeartbeats 6400000 in
theorem rr_c (A : Option Addr) (n c : Nat) (bs : List UInt8) (w : World) (hR : RB w A n bs) (hc : n ≤ c) (hc2 : c ≤ 9223372036854775807) (hn : n ≤ 1000000) (h41 : 41 ≤ n) (u : Tm) (hro : readO (cut bs 0 16) = some u) (hl : leN (cut bs 16 4) < 25) :
    Calls Tryd.prog 10 #[.slice A n c] w (DReadPost w bs) := by
  have hq := dR_nosize (bs := bs) (.inl hl)
  have HLEN := Lib.hid hR.1
  have q0 : decide ((n : Int) < 41) = false := decide_eq_false (by omega)
  have hrd : Hid (∀ W, Below w.heap.size w W → RB W A 16 (cut bs 0 16)) := fun W hb => ⟨cut_len _ _ _ (by rw [hR.1]; omega), by have := (hR.below hb).2.take_ 16; simpa [cut] using this⟩
  have GL := Lib.hid (fun W (hb : Below w.heap.size w W) => refGet_ok A n c bs 16 4 W (hR.below hb) hc hc2 rfl (by omega))
  have SR := fun W (hb : Below w.heap.size w W) c' => rread_any A 16 c' (cut bs 0 16) W (hrd W hb)
  rw [hro] at SR
  simp only [readV, Option.getD_some, Option.isSome_some, tmV, Tm.cells] at SR
  obtain ⟨y, mo, dd, hh, mi, ss⟩ := u
  simp only at SR
  have SR := Lib.hid SR
  have hlv : leN (cut bs 16 4) < 4294967296 := by
    have := leN_lt (cut bs 16 4)
    rw [cut_len _ _ _ (by rw [hR.1]; omega)] at this
    exact this
  have q7 : decide (((leN (cut bs 16 4) : Nat) : Int) < 25) = true := decide_eq_true (by omega)
  generalize leN (cut bs 16 4) = lv at *
  clear hro hrd hR
  go_enter Tryd.func10, Tryd.ntmps10
  go_wp2_with fail
  refine calls_named fun w0 hw0 => ?_
  have hbw0 : Below w.heap.size w w0 := by subst hw0; exact ((Below.refl _ _).alloc (Nat.le_refl _) _).alloc (by simp) _
  have hs0 := hbw0.size
  have k0 : w0.heap[w.heap.size]? = some (.cells #[.int .u16 0, .int .u8 0, .int .u8 0, .int .u8 0, .int .u8 0, .int .u8 0] 25) := by subst hw0; exact heap_alloc2_old w _ _
  have q0' : w0.heap[w.heap.size + 1]? = some (.cells #[.int .u16 0, .int .u8 0, .int .u8 0, .int .u8 0, .int .u8 0, .int .u8 0] 25) := by subst hw0; exact heap_alloc2_new w _ _
  clear hw0
  have q0 := q0'
  clear q0'
  refine (SR.out w0 hbw0 _).mono ?_
  intro e w1 hw1
  obtain ⟨rfl, hb1⟩ := hw1
  have hbw1 := hbw0.trans (hb1.mono hs0)
  have hs1 := hbw1.size
  have k1 := (hb1.block _ (heap_lt k0)).trans k0
  have q1 := (hb1.block _ (heap_lt q0)).trans q0
  have hz1 : w0.heap.size ≤ w1.heap.size := hb1.size
  clear hb1 k0 q0
  go_wp2_with fail
  refine calls_named fun w2 hw2 => ?_
  have hb2 : Below w1.heap.size w1 w2 := by subst hw2; exact (Below.refl _ _).alloc (Nat.le_refl _) _
  have v2 : w2.heap[w1.heap.size]? = some (.cells #[.int .u16 (y : Int), .int .u8 (mo.toNat : Int), .int .u8 (dd.toNat : Int), .int .u8 (hh.toNat : Int), .int .u8 (mi.toNat : Int), .int .u8 (ss.toNat : Int)] 25) := by subst hw2; exact heap_alloc_new w1 _
  clear hw2
  have hbw2 := hbw1.trans (hb2.mono hs1)
  have hs2 := hbw2.size
  have k2 := (hb2.block _ (heap_lt k1)).trans k1
  have q2 := (hb2.block _ (heap_lt q1)).trans q1
  have hz2 : w1.heap.size ≤ w2.heap.size := hb2.size
  clear hb2 k1 q1
  refine (GL.out w2 hbw2).mono ?_
  intro e w3 hw3
  obtain ⟨rfl, hb3⟩ := hw3
  have hbw3 := hbw2.trans (hb3.mono hs2)
  have hs3 := hbw3.size
  have k3 := (hb3.block _ (heap_lt k2)).trans k2
  have q3 := (hb3.block _ (heap_lt q2)).trans q2
  have v3 := (hb3.block _ (heap_lt v2)).trans v2
  have hz3 : w2.heap.size ≤ w3.heap.size := hb3.size
  clear hb3 k2 q2 v2
  obtain ⟨a0, a1, a2, a3, a4, a5⟩ := cells6 q3
  obtain ⟨b0, b1, b2, b3, b4, b5⟩ := cells6 k3
  obtain ⟨f0, f1, f2, f3, f4, f5⟩ := free6 k3
  have HF := Lib.hid (dread_none (w := w) hq (below6 (v0 := .int .u16 0) (v1 := .int .u8 0) (v2 := .int .u8 0) (v3 := .int .u8 0) (v4 := .int .u8 0) (v5 := .int .u8 0) hbw3 (Nat.le_refl _)))
  have HZ := Lib.hid (set6 (v0 := .int .u16 0) (v1 := .int .u8 0) (v2 := .int .u8 0) (v3 := .int .u8 0) (v4 := .int .u8 0) (v5 := .int .u8 0) k3)
  clear hq hbw3 k3 q3
  go_wp2
  refine bodyPost_ret (results_de rfl _ _ _ _ _ _ _ _ _ rfl HZ.out) rfl ?_
  exact HF.out
set_option maxHeartbeats 6400000 in
theorem rr_d (A : Option Addr) (n c : Nat) (bs : List UInt8) (w : World) (hR : RB w A n bs) (hc : n ≤ c) (hc2 : c ≤ 9223372036854775807) (hn : n ≤ 1000000) (h41 : 41 ≤ n) (u : Tm) (hro : readO (cut bs 0 16) = some u) (hl : 25 ≤ leN (cut bs 16 4)) (hl2 : n < 16 + leN (cut bs 16 4)) :
    Calls Tryd.prog 10 #[.slice A n c] w (DReadPost w bs) := by
  have hq := dR_nosize (bs := bs) (.inr (by rw [hR.1]; exact hl2))
  have HLEN := Lib.hid hR.1
  have q0 : decide ((n : Int) < 41) = false := decide_eq_false (by omega)
  have hrd : Hid (∀ W, Below w.heap.size w W → RB W A 16 (cut bs 0 16)) := fun W hb => ⟨cut_len _ _ _ (by rw [hR.1]; omega), by have := (hR.below hb).2.take_ 16; simpa [cut] using this⟩
  have GL := Lib.hid (fun W (hb : Below w.heap.size w W) => refGet_ok A n c bs 16 4 W (hR.below hb) hc hc2 rfl (by omega))
  have SR := fun W (hb : Below w.heap.size w W) c' => rread_any A 16 c' (cut bs 0 16) W (hrd W hb)
  rw [hro] at SR
  simp only [readV, Option.getD_some, Option.isSome_some, tmV, Tm.cells] at SR
  obtain ⟨y, mo, dd, hh, mi, ss⟩ := u
  simp only at SR
  have SR := Lib.hid SR
  have hlv : leN (cut bs 16 4) < 4294967296 := by
    have := leN_lt (cut bs 16 4)
    rw [cut_len _ _ _ (by rw [hR.1]; omega)] at this
    exact this
  have q7 : decide (((leN (cut bs 16 4) : Nat) : Int) < 25) = false := decide_eq_false (by omega)
  have q8 : decide ((n : Int) - 16 < ((leN (cut bs 16 4) : Nat) : Int)) = true := decide_eq_true (by omega)
  generalize leN (cut bs 16 4) = lv at *
  clear hro hrd hR
  go_enter Tryd.func10, Tryd.ntmps10
  go_wp2_with fail
  refine calls_named fun w0 hw0 => ?_
  have hbw0 : Below w.heap.size w w0 := by subst hw0; exact ((Below.refl _ _).alloc (Nat.le_refl _) _).alloc (by simp) _
  have hs0 := hbw0.size
  have k0 : w0.heap[w.heap.size]? = some (.cells #[.int .u16 0, .int .u8 0, .int .u8 0, .int .u8 0, .int .u8 0, .int .u8 0] 25) := by subst hw0; exact heap_alloc2_old w _ _
  have q0' : w0.heap[w.heap.size + 1]? = some (.cells #[.int .u16 0, .int .u8 0, .int .u8 0, .int .u8 0, .int .u8 0, .int .u8 0] 25) := by subst hw0; exact heap_alloc2_new w _ _
  clear hw0
  have q0 := q0'
  clear q0'
  refine (SR.out w0 hbw0 _).mono ?_
  intro e w1 hw1
  obtain ⟨rfl, hb1⟩ := hw1
  have hbw1 := hbw0.trans (hb1.mono hs0)
  have hs1 := hbw1.size
  have k1 := (hb1.block _ (heap_lt k0)).trans k0
  have q1 := (hb1.block _ (heap_lt q0)).trans q0
  have hz1 : w0.heap.size ≤ w1.heap.size := hb1.size
  clear hb1 k0 q0
  go_wp2_with fail
  refine calls_named fun w2 hw2 => ?_
  have hb2 : Below w1.heap.size w1 w2 := by subst hw2; exact (Below.refl _ _).alloc (Nat.le_refl _) _
  have v2 : w2.heap[w1.heap.size]? = some (.cells #[.int .u16 (y : Int), .int .u8 (mo.toNat : Int), .int .u8 (dd.toNat : Int), .int .u8 (hh.toNat : Int), .int .u8 (mi.toNat : Int), .int .u8 (ss.toNat : Int)] 25) := by subst hw2; exact heap_alloc_new w1 _
  clear hw2
  have hbw2 := hbw1.trans (hb2.mono hs1)
  have hs2 := hbw2.size
  have k2 := (hb2.block _ (heap_lt k1)).trans k1
  have q2 := (hb2.block _ (heap_lt q1)).trans q1
  have hz2 : w1.heap.size ≤ w2.heap.size := hb2.size
  clear hb2 k1 q1
  refine (GL.out w2 hbw2).mono ?_
  intro e w3 hw3
  obtain ⟨rfl, hb3⟩ := hw3
  have hbw3 := hbw2.trans (hb3.mono hs2)
  have hs3 := hbw3.size
  have k3 := (hb3.block _ (heap_lt k2)).trans k2
  have q3 := (hb3.block _ (heap_lt q2)).trans q2
  have v3 := (hb3.block _ (heap_lt v2)).trans v2
  have hz3 : w2.heap.size ≤ w3.heap.size := hb3.size
  clear hb3 k2 q2 v2
  obtain ⟨a0, a1, a2, a3, a4, a5⟩ := cells6 q3
  obtain ⟨b0, b1, b2, b3, b4, b5⟩ := cells6 k3
  obtain ⟨f0, f1, f2, f3, f4, f5⟩ := free6 k3
  have HF := Lib.hid (dread_none (w := w) hq (below6 (v0 := .int .u16 0) (v1 := .int .u8 0) (v2 := .int .u8 0) (v3 := .int .u8 0) (v4 := .int .u8 0) (v5 := .int .u8 0) hbw3 (Nat.le_refl _)))
  have HZ := Lib.hid (set6 (v0 := .int .u16 0) (v1 := .int .u8 0) (v2 := .int .u8 0) (v3 := .int .u8 0) (v4 := .int .u8 0) (v5 := .int .u8 0) k3)
  clear hq hbw3 k3 q3
  go_wp2
  refine bodyPost_ret (results_de rfl _ _ _ _ _ _ _ _ _ rfl HZ.out) rfl ?_
  exact HF.out
end Go.Proofs.YthmmipcfabijdaaDoor
