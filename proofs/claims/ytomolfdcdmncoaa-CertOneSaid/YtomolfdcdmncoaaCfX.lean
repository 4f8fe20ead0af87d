/-
  cert: the constraints that the statement on paths makes (plain words).
-/
import Derived.Test.YtomolfdcdmncoaaCfW
namespace Go.Proofs.Ytomolfdcdmncoaa
open Go.RowKit Go
set_option linter.unusedVariables false
set_option linter.unusedSimpArgs false
set_option maxRecDepth 100000
/-- Two bytes of a number, the higher first. -/
def p16 (p : Nat) : List UInt8 := [UInt8.ofNat (p / 256), UInt8.ofNat p]
theorem p16_be (p : Nat) (h : p < 65536) : beN (p16 p) = p := by
  simp only [p16, beN, List.foldl_cons, List.foldl_nil, UInt8.toNat_ofNat']
  omega
def paB (ca has : Bool) (p : Nat) : List UInt8 := (if ca then [1, 1, 255] else []) ++ (if has then wrQ 2 (putI (p16 p)) else [])
def paV (ca has : Bool) (p : Nat) : Option (Bool × Int) := if has = true ∧ (ca = false ∨ 255 < p) then none else some (ca, if has then (p : Int) else -1)
theorem pI_len (p : Nat) : (putI (p16 p)).length ≤ 3 := by
  have h := putI_len (p16 p)
  have h2 : (p16 p).length = 2 := rfl
  omega
theorem paB_len (ca has : Bool) (p : Nat) : (paB ca has p).length ≤ 20 := by
  have h := pI_len p
  have h2 := wrQ_len 2 (putI (p16 p)) (by omega)
  unfold paB
  rw [List.length_append]
  cases ca <;> cases has <;> simp <;> omega
theorem co_pa (ca has : Bool) (p : Nat) (h : p < 65536) : coQ (wrQ 48 (paB ca has p), paB ca has p) = paV ca has p := by
  have h1 := pI_len p
  have h2 := trim_len9 (p16 p)
  have h3 : beN (trimZ (p16 p)) = p := by rw [trim_be9]; exact p16_be p h
  have h4 : (p16 p).length = 2 := rfl
  unfold coQ
  rw [wi_wr 48 _ 48 rfl]
  cases ca with
  | false =>
    cases has with
    | false =>
      have e : paB false false p = [] := rfl
      rw [e, all_nil]
      rfl
    | true =>
      show (allQ (wrQ 2 (putI (p16 p)))).bind _ = _
      rw [all1 (by decide) (by omega)]
      simp only [Option.bind_some]
      unfold itQ
      rw [tg_wr, gd_no (by intro h9; exact absurd h9.1 (by decide))]
      rfl
  | true =>
    cases has with
    | false =>
      have e : paB true false p = wrQ 1 [255] := by unfold paB; rw [if_pos rfl, one_is, if_neg (by decide), List.append_nil]
      rw [e, all1 (by decide) (by decide)]
      simp only [Option.bind_some]
      rw [show itQ (wrQ 1 [255], [255]) = some () by decide +kernel]
      rfl
    | true =>
      show (allQ (([1, 1, 255] : List UInt8) ++ wrQ 2 (putI (p16 p)))).bind _ = _
      rw [one_is, allS (by decide) (by decide) (all1 (by decide) (by omega))]
      simp only [Option.bind_some]
      rw [show itQ (wrQ 1 [255], [255]) = some () by decide +kernel]
      simp only [Option.bind_some]
      by_cases hp : p < 256
      · rw [sm_wr _ _ (by omega) (by omega)]
        simp only [Option.bind_some, enQ]
        rw [h3]
        unfold paV
        rw [if_neg (by simp; omega)]
        rfl
      · unfold paV
        rw [if_pos ⟨rfl, .inr (by omega)⟩]
        unfold smQ
        rw [nu_wr]
        simp only [Option.bind_some]
        rw [gd_yes (by omega)]
        simp only [Option.bind_some]
        rw [gd_no (by omega)]
        rfl
/-- What an extension of constraints comes to. -/
theorem pa_one (ca has : Bool) (p : Nat) (h : p < 65536) (crit : Bool) : exsV [(o19, crit, wrQ 48 (paB ca has p))] = (paV ca has p).bind fun q => some { xt0 with ca := q.1, path := q.2 } := by
  have hl := paB_len ca has p
  have hw := wrQ_len 48 (paB ca has p) (by omega)
  unfold exsV
  rw [if_neg (by simp)]
  simp only [List.map_cons, List.map_nil]
  rw [es_one (o19, crit, wrQ 48 (paB ca has p)) [2, 5, 29, 19] [] [] xt0 (show oidQ o19 = _ by decide +kernel) (by simp) ⟨show o19.length ≤ _ by decide, by simp only []; omega⟩]
  unfold exQ
  rw [if_pos rfl, si_wr 48 _ (by decide) (by omega)]
  simp only [Option.bind_some]
  rw [co_pa ca has p h]
  cases paV ca has p <;> rfl
theorem si_more (tag : UInt8) (b more : List UInt8) (ht : tag.toNat % 32 ≠ 31) (hb : b.length < 4294967296) (hm : more ≠ []) : siQ (wrQ tag b ++ more) = none := by
  unfold siQ
  rw [split_wr tag b more ht hb]
  simp only [Option.bind_some]
  rw [gd_no (by intro h9; rw [List.length_append] at h9; exact hm (List.length_eq_zero_iff.1 (by omega)))]
  rfl
/-- Bytes behind the constraints. -/
theorem pa_more (ca has : Bool) (p : Nat) (crit : Bool) : exsV [(o19, crit, wrQ 48 (paB ca has p) ++ [5, 0])] = none := by
  have hl := paB_len ca has p
  have hw := wrQ_len 48 (paB ca has p) (by omega)
  unfold exsV
  rw [if_neg (by simp)]
  simp only [List.map_cons, List.map_nil]
  rw [es_one (o19, crit, wrQ 48 (paB ca has p) ++ [5, 0]) [2, 5, 29, 19] [] [] xt0 (show oidQ o19 = _ by decide +kernel) (by simp) ⟨show o19.length ≤ _ by decide, by simp only [List.length_append, List.length_cons, List.length_nil]; omega⟩]
  unfold exQ
  rw [if_pos rfl, si_more 48 _ _ (by decide) (by omega) (by simp)]
  rfl
end Go.Proofs.Ytomolfdcdmncoaa
