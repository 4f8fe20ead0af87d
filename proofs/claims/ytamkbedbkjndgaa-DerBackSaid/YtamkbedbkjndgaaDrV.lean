/-
  der: withoutNoughts.
-/
import Derived.Test.YtamkbedbkjndgaaRef
namespace Go.Proofs.Ytamkbedbkjndgaa
open Go.RowKit Go
set_option linter.unusedVariables false
set_option maxRecDepth 100000
/-- Bytes without the noughts ahead. -/
def trimZ : List UInt8 → List UInt8
  | [] => []
  | d :: r => if d.toNat = 0 then trimZ r else d :: r
theorem trimZ_cons (d : UInt8) (r : List UInt8) : trimZ (d :: r) = if d.toNat = 0 then trimZ r else d :: r := rfl
theorem without_any (A : Option Addr) (n c : Nat) (bs : List UInt8) (w : World) (hR : RB w A n bs) (hnc : n ≤ c) (hc : c ≤ maxLen) :
    Calls Try.prog 46 #[.slice A n c] w fun e w' => (∃ A' n' c', e = .returned (.slice A' n' c') ∧ RB w A' n' (trimZ bs) ∧ n' ≤ c' ∧ c' ≤ c) ∧ w = w' := by
  have hc2 : c ≤ 9223372036854775807 := by unfold maxLen at hc; omega
  go_enter Try.func46, Try.ntmps46
  go_wp2
  go_loop [0] (fun v => ∃ (A' : Option Addr) (n' c' : Nat) (l : List UInt8), v = .slice A' n' c' ∧ RB w A' n' l ∧ n' ≤ c' ∧ c' ≤ c ∧ Hid (trimZ bs = trimZ l)) (fun v => match v with | .slice _ k _ => k | _ => 0)
  case atStart => exact ⟨A, n, c, bs, rfl, hR, hnc, Nat.le_refl _, rfl⟩
  case round =>
    obtain ⟨A', n', c', l, rfl, hR', hnc', hcc, HT⟩ := hrel
    by_cases h0 : 0 < n'
    · obtain ⟨b, off, d, rfl, hb, hd, hcell⟩ := hR'.at_ (k := 0) h0
      obtain ⟨r, rfl⟩ : ∃ r, l = d :: r := by
        cases l with
        | nil => simp at hd
        | cons x r => simp at hd; subst hd; exact ⟨r, rfl⟩
      have HR := Lib.hid hR'
      have hcell' : w.cell? ⟨b, off, none⟩ = some (.int .u8 (d.toNat : Int)) := hcell
      clear hcell hR' hd
      by_cases hz : d.toNat = 0
      · have t1 : ((d.toNat : Int) == 0) = true := by simp; omega
        have HT' := Lib.hid (HT.out.trans ((trimZ_cons d r).trans (if_pos hz)))
        have hlen := HR.out.1
        by_cases hcap : c' = 1
        · have hn1 : n' = 1 := by omega
          have hr : r = [] := by cases r with
            | nil => rfl
            | cons x y => simp at hlen; omega
          subst hr
          subst hcap
          subst hn1
          clear hz
          go_wp2
          go_round
          case rel => exact ⟨_, 0, _, [], rfl, RB.nil _ _, Nat.zero_le _, by omega, HT'⟩
          case measure => simp
        · have hRr : Hid (RB w (some ⟨b, off + 1, none⟩) (n' - 1) r) := by
            have h2 := HR.out.2.drop_ 1
            simp only [Option.map_some, Addr.add_lit] at h2
            exact ⟨by simp at hlen; omega, h2⟩
          have hc1 : 1 < c' := by omega
          clear hz hcap
          go_wp2
          go_round
          case rel => exact ⟨_, _, _, r, rfl, hRr.out, by omega, by omega, HT'⟩
          case measure => simp; omega
      · have t1 : ((d.toNat : Int) == 0) = false := by simp; omega
        have HT' := Lib.hid (HT.out.trans ((trimZ_cons d r).trans (if_neg hz)))
        clear hz
        go_wp2
        go_ret
        exact ⟨⟨_, _, _, rfl, by rw [HT'.out]; exact HR.out, hnc', hcc⟩, rfl⟩
    · have hl : l = [] := List.length_eq_zero_iff.1 (by have := hR'.1; omega)
      subst hl
      have hn0 : n' = 0 := by omega
      have HT' := Lib.hid HT.out
      subst hn0
      go_wp2
      go_ret
      exact ⟨⟨_, _, _, rfl, by rw [HT'.out]; exact hR', hnc', hcc⟩, rfl⟩
end Go.Proofs.Ytamkbedbkjndgaa
