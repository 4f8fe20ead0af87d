/-
  cert: the usages that the statement on usages makes (plain words).
-/
import Derived.Test.YtomolfdcdmncoaaCfX
namespace Go.Proofs.Ytomolfdcdmncoaa
open Go.RowKit Go
set_option linter.unusedVariables false
set_option linter.unusedSimpArgs false
set_option maxRecDepth 100000
/-- The bit string of so many flags, after so many steps. -/
def ubS (b : List Bool) : Nat → List UInt8
  | 0 => UInt8.ofNat ((8 - b.length % 8) % 8) :: List.replicate ((b.length + 7) / 8) 0
  | i + 1 => if b.getD i false then (ubS b i).set (1 + i / 8) ((ubS b i).getD (1 + i / 8) 0 ||| UInt8.ofNat (128 / 2 ^ (i % 8))) else ubS b i
def ubN (b : List Bool) : Nat → Nat
  | 0 => 0
  | i + 1 => if b.getD i false then ubN b i + 2 ^ i else ubN b i
def ubB (b : List Bool) : List UInt8 := ubS b b.length
def ubV (b : List Bool) : Option Nat := if b.length < 1 ∨ 9 < b.length ∨ b.getD (b.length - 1) false = false then none else some (ubN b b.length)
theorem ubS_is (b : List Bool) : ∀ i, ∃ r, ubS b i = UInt8.ofNat ((8 - b.length % 8) % 8) :: r ∧ r.length = (b.length + 7) / 8
  | 0 => ⟨_, rfl, by simp⟩
  | i + 1 => by
    obtain ⟨r, e, hr⟩ := ubS_is b i
    simp only [ubS]
    split
    · rw [e, show 1 + i / 8 = (i / 8) + 1 by omega, List.set_cons_succ]
      exact ⟨_, rfl, by rw [List.length_set]; exact hr⟩
    · exact ⟨r, e, hr⟩
theorem ubB_len (b : List Bool) (h : b.length ≤ 40) : (ubB b).length ≤ 6 := by
  obtain ⟨r, e, hr⟩ := ubS_is b b.length
  unfold ubB
  rw [e, List.length_cons]
  omega
/-- All lists of so many flags. -/
def allB : Nat → List (List Bool)
  | 0 => [[]]
  | n + 1 => (allB n).map (true :: ·) ++ (allB n).map (false :: ·)
theorem allB_mem : ∀ (b : List Bool), b ∈ allB b.length
  | [] => by simp [allB]
  | x :: r => by
    have h := allB_mem r
    simp only [List.length_cons, allB, List.mem_append, List.mem_map]
    cases x
    · exact .inr ⟨r, h, rfl⟩
    · exact .inl ⟨r, h, rfl⟩
theorem us_small : ∀ n : Fin 10, ∀ b ∈ allB n.val, usQ (wrQ 3 (ubB b), ubB b) = ubV b := by decide +kernel
theorem us_ub (b : List Bool) (h : b.length ≤ 40) : usQ (wrQ 3 (ubB b), ubB b) = ubV b := by
  by_cases h9 : b.length < 10
  · exact us_small ⟨b.length, h9⟩ b (allB_mem b)
  · obtain ⟨r, e, hr⟩ := ubS_is b b.length
    have e2 : ubB b = UInt8.ofNat ((8 - b.length % 8) % 8) :: r := e
    unfold ubV
    rw [if_pos (.inr (.inl (by omega)))]
    unfold usQ
    rw [tg_wr, gd_yes (show (3 : UInt8).toNat = 3 from rfl)]
    simp only [Option.bind_some]
    rw [e2]
    have hd : (UInt8.ofNat ((8 - b.length % 8) % 8)).toNat = (8 - b.length % 8) % 8 := by rw [UInt8.toNat_ofNat']; omega
    cases hq : bitsQ (UInt8.ofNat ((8 - b.length % 8) % 8) :: r) with
    | none => rfl
    | some p =>
      have hp : p = (r, (8 - b.length % 8) % 8) := by
        simp only [bitsQ] at hq
        rw [hd] at hq
        split at hq
        · cases hq
        · split at hq
          · cases hq
          · exact (Option.some.inj hq).symm
      subst hp
      simp only [Option.bind_some]
      rw [gd_no (by omega)]
      rfl
/-- What an extension of usages comes to. -/
theorem ub_one (b : List Bool) (h : b.length ≤ 40) (crit : Bool) : exsV [(o15, crit, wrQ 3 (ubB b))] = (ubV b).bind fun u => some { xt0 with usage := (u : Int) } := by
  have hl := ubB_len b h
  have hw := wrQ_len 3 (ubB b) (by omega)
  unfold exsV
  rw [if_neg (by simp)]
  simp only [List.map_cons, List.map_nil]
  rw [es_one (o15, crit, wrQ 3 (ubB b)) [2, 5, 29, 15] [] [] xt0 (show oidQ o15 = _ by decide +kernel) (by simp) ⟨show o15.length ≤ _ by decide, by simp only []; omega⟩]
  unfold exQ
  rw [if_neg (by decide), if_pos rfl, si_wr 3 _ (by decide) (by omega)]
  simp only [Option.bind_some]
  rw [us_ub b h]
  cases ubV b <;> rfl
end Go.Proofs.Ytomolfdcdmncoaa
