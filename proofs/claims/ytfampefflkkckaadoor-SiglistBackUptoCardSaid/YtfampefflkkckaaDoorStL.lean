/-
  stamp: Read, of any bytes.
-/
import Derived.Test.YtfampefflkkckaaDoorStK
namespace Go.Proofs.YtfampefflkkckaaDoor
open Go.RowKit Go
set_option linter.unusedVariables false
set_option maxRecDepth 100000
theorem first_bad : ∀ l : List UInt8, l.all (· == 0) = false → ∃ (k : Nat) (q : UInt8), l[k]? = some q ∧ q ≠ 0 ∧ ∀ j, j < k → l[j]? = some 0
  | [], h => by cases h
  | x :: r, h => by
    by_cases hx : x = 0
    · subst hx
      obtain ⟨k, q, h1, h2, h3⟩ := first_bad r (by simpa using h)
      refine ⟨k + 1, q, by simpa using h1, h2, fun j hj => ?_⟩
      match j, hj with
      | 0, _ => rfl
      | j + 1, hj => simpa using h3 j (by omega)
    · exact ⟨0, x, rfl, hx, fun j hj => absurd hj (by omega)⟩
theorem none_bad {l : List UInt8} (h : l.all (· == 0) = true) (j : Nat) (hj : j < l.length) : l[j]? = some 0 := by
  rw [List.getElem?_eq_getElem hj]
  have := List.all_eq_true.1 h l[j] (List.getElem_mem hj)
  simpa using this
/-- The moment that sixteen bytes tell. -/
def tmR (bs : List UInt8) : Tm := ⟨leN (cut bs 0 2), bs.getD 2 0, bs.getD 3 0, bs.getD 4 0, bs.getD 5 0, bs.getD 6 0⟩
def readO (bs : List UInt8) : Option Tm := if bs.length = 16 ∧ (bs.drop 7).all (· == 0) = true ∧ (rightB (tmR bs) = true ∨ tmR bs = Tm.zero) then some (tmR bs) else none
def readV (r : Option Tm) : Value := .tuple #[tmV (r.getD Tm.zero), .int .i64 (if r.isSome then 0 else 9)]
theorem sread_len (A : Option Addr) (n c : Nat) (bs : List UInt8) (w : World) (hR : RB w A n bs) (hn : n ≠ 16) :
    Calls Tryd.prog 47 #[.slice A n c] w fun e w' => e = .returned (readV none) ∧ Below w.heap.size w w' := by
  have hb0 : ∀ cs, Below w.heap.size w (w.alloc (.cells cs 71)) := fun cs => (Below.refl _ _).alloc (Nat.le_refl _) _
  have d1 : ((n : Int) == 16) = false := beq_eq_false_iff_ne.2 (by omega)
  have d2 : ((n : Int) != 16) = true := by rw [bne_iff_ne]; omega
  have G0 : Hid ((w.alloc (.cells Tm.zero.cells 71)).heap[w.heap.size]? = some (.cells Tm.zero.cells 71)) := heap_alloc_new w _
  clear hn hR
  go_enter Tryd.func47, Tryd.ntmps47
  go_wp2
  exact bodyPost_ret (results_tm rfl _ _ w.heap.size Tm.zero rfl G0.out) rfl ⟨rfl, hb0 _⟩
theorem sread_tail (A : Option Addr) (c : Nat) (bs : List UInt8) (w : World) (hR : RB w A 16 bs) (hc : 16 ≤ c) (hc2 : c ≤ 9223372036854775807) (k0 : Nat) (q0 : UInt8) (hk0 : k0 < 9) (hq0 : bs[7 + k0]? = some q0) (hne : q0 ≠ 0) (hz : ∀ j, j < k0 → bs[7 + j]? = some 0) :
    Calls Tryd.prog 47 #[.slice A 16 c] w fun e w' => e = .returned (readV none) ∧ Below w.heap.size w w' := by
  have hb0 : ∀ cs, Below w.heap.size w (w.alloc (.cells cs 71)) := fun cs => (Below.refl _ _).alloc (Nat.le_refl _) _
  have HZ := Lib.hid hz
  have HQ := Lib.hid hq0
  have hqb := q0.toNat_lt
  have G0 : Hid ((w.alloc (.cells Tm.zero.cells 71)).heap[w.heap.size]? = some (.cells Tm.zero.cells 71)) := heap_alloc_new w _
  have hq1 : q0.toNat ≠ 0 := fun e => hne (UInt8.toNat_inj.1 (by rw [e]; rfl))
  obtain ⟨b, off, qq, rfl, hb, e0, c0⟩ := hR.at_ (k := 0) (by omega)
  have hat : ∀ k, k < 16 → ∃ q, bs[k]? = some q ∧ w.cell? ⟨b, off + k, none⟩ = some (.int .u8 (q.toNat : Int)) := fun k hk => by
    obtain ⟨b', off', q, e, _, h1, h2⟩ := hR.at_ hk
    injection e with e
    injection e with e1 e2
    subst e1; subst e2
    exact ⟨q, h1, h2⟩
  have HAT := Lib.hid hat
  have d1 : ((q0.toNat : Int) == 0) = false := beq_eq_false_iff_ne.2 (by omega)
  have d2 : ((q0.toNat : Int) != 0) = true := by rw [bne_iff_ne]; omega
  clear hz hat hq0 hR hne hq1 e0 c0
  go_enter Tryd.func47, Tryd.ntmps47
  go_wp2
  go_loop [5, 16] (fun x i => ∃ k : Nat, k ≤ k0 ∧ i = .int .i64 k) (fun _ i => 9 - (intOf i).toNat)
  case atStart => exact ⟨0, by omega, rfl⟩
  case round =>
    obtain ⟨k, hk, rfl⟩ := hrel
    by_cases hlt : k < k0
    · obtain ⟨q, hq, hcell⟩ := HAT.out (7 + k) (by omega)
      rw [HZ.out k hlt] at hq
      injection hq with hq
      subst hq
      have hcell' : w.cell? ⟨b, off + 7 + k, none⟩ = some (.int .u8 0) := by rw [Nat.add_assoc]; exact hcell
      have k9 : k < 9 := by omega
      clear hcell
      go_wp2
      go_round
      case rel => exact ⟨k + 1, by omega, by go_num⟩
      case measure => simp [intOf]; omega
    · obtain rfl : k0 = k := by omega
      obtain ⟨q, hq, hcell⟩ := HAT.out (7 + k0) (by omega)
      rw [HQ.out] at hq
      injection hq with hq
      subst hq
      have hcell' : w.cell? ⟨b, off + 7 + k0, none⟩ = some (.int .u8 (q0.toNat : Int)) := by rw [Nat.add_assoc]; exact hcell
      clear hcell
      go_wp2
      exact bodyPost_ret (results_tm rfl _ _ w.heap.size Tm.zero rfl G0.out) rfl ⟨rfl, hb0 _⟩
theorem sread_any (A : Option Addr) (n c : Nat) (bs : List UInt8) (w : World) (hR : RB w A n bs) (hc : n ≤ c) (hc2 : c ≤ 9223372036854775807) (hT : Sizes w) :
    Calls Tryd.prog 47 #[.slice A n c] w fun e w' => e = .returned (readV (readO bs)) ∧ Below w.heap.size w w' := by
  by_cases hn : n = 16
  · subst hn
    have hl := hR.1
    cases ht : (bs.drop 7).all (· == 0) with
    | false =>
      have e : readO bs = none := if_neg (by rw [ht]; simp)
      rw [e]
      obtain ⟨k, q, h1, h2, h3⟩ := first_bad _ ht
      have hk : k < 9 := by
        rcases Nat.lt_or_ge k 9 with h | h
        · exact h
        · rw [List.getElem?_eq_none (by simp; omega)] at h1; cases h1
      rw [List.getElem?_drop] at h1
      exact sread_tail A c bs w hR hc hc2 k q hk h1 h2 (fun j hj => by have := h3 j hj; rwa [List.getElem?_drop] at this)
    | true =>
      have hz : ∀ j, j < 9 → bs[7 + j]? = some 0 := fun j hj => by
        have := none_bad ht j (by simp; omega)
        rwa [List.getElem?_drop] at this
      have hg : ∀ k, k < 16 → bs[k]? = some (bs.getD k 0) := fun k hk => by
        rw [List.getD_eq_getElem?_getD, List.getElem?_eq_getElem (by omega)]
        rfl
      cases hr : rightB (tmR bs) with
      | true =>
        have e : readO bs = some (tmR bs) := if_pos ⟨hl, ht, .inl hr⟩
        rw [e]
        exact sread_right A c bs w hR hc hc2 hT hz _ _ _ _ _ (hg 2 (by omega)) (hg 3 (by omega)) (hg 4 (by omega)) (hg 5 (by omega)) (hg 6 (by omega)) hr
      | false =>
        by_cases h0 : tmR bs = Tm.zero
        · have e : readO bs = some (tmR bs) := if_pos ⟨hl, ht, .inr h0⟩
          rw [e]
          exact sread_zero A c bs w hR hc hc2 hT hz _ _ _ _ _ (hg 2 (by omega)) (hg 3 (by omega)) (hg 4 (by omega)) (hg 5 (by omega)) (hg 6 (by omega)) hr h0
        · have e : readO bs = none := if_neg (by rw [hr]; simp [h0])
          rw [e]
          exact sread_wrong A c bs w hR hc hc2 hT hz _ _ _ _ _ (hg 2 (by omega)) (hg 3 (by omega)) (hg 4 (by omega)) (hg 5 (by omega)) (hg 6 (by omega)) hr h0
  · have e : readO bs = none := if_neg (by rw [hR.1]; simp [hn])
    rw [e]
    exact sread_len A n c bs w hR hn
end Go.Proofs.YtfampefflkkckaaDoor
