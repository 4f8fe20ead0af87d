/-
  stamp: the document's answer of two digits.
-/
import Derived.Test.YtepakdgpaaeelaaDoorStN
import Derived.IntWalk
import Derived.LoopTactic
namespace Go.Proofs.YtepakdgpaaeelaaDoor
open Go.RowKit Go
set_option linter.unusedVariables false
set_option maxRecDepth 100000
/-- The number of two digits, by definition; 100: they are none. -/
def twoI (p q : UInt8) : Nat := if digit p && digit q then 10 * (p.toNat - 48) + (q.toNat - 48) else 100
def twoN (bs : List UInt8) (k : Nat) : Nat := twoI (bs.getD k 0) (bs.getD (k + 1) 0)
theorem twoI_le (p q : UInt8) : twoI p q ≤ 100 := by
  unfold twoI digit
  split
  · rename_i h
    simp at h
    omega
  · omega
theorem two_pair (p q : UInt8) : (twoI p q = 100 ∧ pairI p q = -1) ∨ (twoI p q < 100 ∧ pairI p q = (twoI p q : Int)) := by
  unfold twoI pairI
  cases h : (digit p && digit q) with
  | false => left; simp
  | true =>
    right
    unfold digit at h
    simp at h
    simp only [if_true]
    omega
theorem two_bad {p q : UInt8} (h : digit p = false ∨ digit q = false) : twoI p q = 100 := by
  unfold twoI
  rw [if_neg]
  rcases h with h | h <;> simp [h]
theorem two_good {p q : UInt8} (h1 : digit p = true) (h2 : digit q = true) : twoI p q = 10 * (p.toNat - 48) + (q.toNat - 48) := by
  unfold twoI
  rw [if_pos (by simp [h1, h2])]
theorem dig_yes {p : UInt8} (h : digit p = true) : 48 ≤ p.toNat ∧ p.toNat ≤ 57 := by unfold digit at h; simpa using h
theorem dig_no {p : UInt8} (h : digit p = false) : p.toNat < 48 ∨ 57 < p.toNat := by unfold digit at h; simp at h; omega
set_option maxHeartbeats 1600000 in
theorem refTwo_any (A : Option Addr) (n c : Nat) (bs : List UInt8) (k : Nat) (w : World) (hR : RB w A n bs) (hk : k + 2 ≤ n) (hn : n ≤ 1000000) :
    Calls Tryd.prog 34 #[.slice A n c, .int .i64 (k : Int)] w fun e w' => ∃ m, e = .returned (.int .i64 (twoN bs k : Nat)) ∧ w' = w.drewN m := by
  obtain ⟨b, off, p, rfl, hb, hp, hcp⟩ := hR.at_ (k := k) (by omega)
  obtain ⟨b', off', q, e, _, hq, hcq⟩ := hR.at_ (k := k + 1) (by omega)
  injection e with e
  injection e with e1 e2
  subst e1; subst e2
  have hv : Hid (twoN bs k = twoI p q) := by rw [Hid, twoN, getD_of hp, getD_of hq]
  have hp1 := p.toNat_lt
  have hq1 := q.toNat_lt
  rw [hv.out]
  clear hv hp hq hR
  have n0 : (0 : Int) ≤ (k : Int) := by omega
  have n1 : (k : Int) < (n : Int) := by omega
  have n2 : (k : Int) + 1 < (n : Int) := by omega
  cases h1 : digit p with
  | false =>
    rw [two_bad (q := q) (.inl h1)]
    have hd := dig_no h1
    clear h1
    rcases hd with hd | hd
    · have pa : decide ((p.toNat : Int) < 48) = true := decide_eq_true (by omega)
      clear hd
      go_enter Tryd.func34, Tryd.ntmps34
      go_wp2
      refine wp_loop_rounds 1 ?_
      rw [rounds_succ]
      go_wp2
      go_ret
      exact ⟨0, rfl, rfl⟩
    · have pa : decide ((p.toNat : Int) < 48) = false := decide_eq_false (by omega)
      have pb : decide (57 < (p.toNat : Int)) = true := decide_eq_true (by omega)
      clear hd
      go_enter Tryd.func34, Tryd.ntmps34
      go_wp2
      refine wp_loop_rounds 1 ?_
      rw [rounds_succ]
      go_wp2
      go_ret
      exact ⟨0, rfl, rfl⟩
  | true =>
    have hd := dig_yes h1
    have pa : decide ((p.toNat : Int) < 48) = false := decide_eq_false (by omega)
    have pb : decide (57 < (p.toNat : Int)) = false := decide_eq_false (by omega)
    cases h2 : digit q with
    | false =>
      rw [two_bad (p := p) (.inr h2)]
      have he := dig_no h2
      clear h1 h2
      rcases he with he | he
      · have qa : decide ((q.toNat : Int) < 48) = true := decide_eq_true (by omega)
        clear hd he
        go_enter Tryd.func34, Tryd.ntmps34
        go_wp2
        refine wp_loop_rounds 2 ?_
        rw [rounds_succ]
        go_wp2
        rw [rounds_succ]
        go_wp2
        go_ret
        exact ⟨0, rfl, rfl⟩
      · have qa : decide ((q.toNat : Int) < 48) = false := decide_eq_false (by omega)
        have qb : decide (57 < (q.toNat : Int)) = true := decide_eq_true (by omega)
        clear hd he
        go_enter Tryd.func34, Tryd.ntmps34
        go_wp2
        refine wp_loop_rounds 2 ?_
        rw [rounds_succ]
        go_wp2
        rw [rounds_succ]
        go_wp2
        go_ret
        exact ⟨0, rfl, rfl⟩
    | true =>
      rw [two_good h1 h2]
      have he := dig_yes h2
      have qa : decide ((q.toNat : Int) < 48) = false := decide_eq_false (by omega)
      have qb : decide (57 < (q.toNat : Int)) = false := decide_eq_false (by omega)
      clear h1 h2
      have f1 : Hid (IntKind.u8.wrap ((p.toNat : Int) - 48) = (p.toNat : Int) - 48) := IntWalk.u8_in _ (by omega)
      have f2 : Hid (IntKind.u8.wrap ((q.toNat : Int) - 48) = (q.toNat : Int) - 48) := IntWalk.u8_in _ (by omega)
      have f3 : Hid (IntKind.i64.wrap ((p.toNat : Int) - 48) = (p.toNat : Int) - 48) := IntWalk.i64_in _ (by omega)
      have f4 : Hid (IntKind.i64.wrap ((q.toNat : Int) - 48) = (q.toNat : Int) - 48) := IntWalk.i64_in _ (by omega)
      have f5 : Hid (IntKind.i64.wrap (10 * ((p.toNat : Int) - 48)) = 10 * ((p.toNat : Int) - 48)) := IntWalk.i64_in _ (by omega)
      have f6 : Hid (IntKind.i64.wrap (10 * ((p.toNat : Int) - 48) + ((q.toNat : Int) - 48)) = ((10 * (p.toNat - 48) + (q.toNat - 48) : Nat) : Int)) := (IntWalk.i64_in _ (by omega)).trans (by omega)
      have f7 : Hid (IntKind.i64.wrap ((k : Int) + 1) = (k : Int) + 1) := IntWalk.i64_in _ (by omega)
      have f8 : Hid ((0 : Int) ≤ (k : Int) + 1) := by show _ ≤ _; omega
      have f9 : Hid (((k : Int) + 1).toNat = k + 1) := by show _ = _; omega
      go_enter Tryd.func34, Tryd.ntmps34
      go_wp2
      refine wp_loop_rounds 3 ?_
      rw [rounds_succ]
      go_wp2
      rw [rounds_succ]
      go_wp2
      rw [rounds_succ]
      go_wp2
      have f1 := f1.out
      have f2 := f2.out
      have f3 := f3.out
      have f4 := f4.out
      have f5 := f5.out
      have f6 := f6.out
      have f7 := f7.out
      have f8 := f8.out
      have f9 := f9.out
      go_quiet (fail)
      go_wp2
      go_ret
      exact ⟨_, rfl, rfl⟩
end Go.Proofs.YtepakdgpaaeelaaDoor
