/-
  cert: the purposes that the statement on purposes makes (plain words).
-/
import Derived.Test.YtomolfdcdmncoaaCfX
namespace Go.Proofs.Ytomolfdcdmncoaa
open Go.RowKit Go
set_option linter.unusedVariables false
set_option linter.unusedSimpArgs false
set_option maxRecDepth 100000
/-- The identifier of signing code. -/
def cdB : List UInt8 := [43, 6, 1, 5, 5, 7, 3, 3]
theorem cd_is : putoidQ codeO = cdB := by decide +kernel
theorem cd_oid : oidQ cdB = some codeO := by
  have h := oid_put (xs := codeO) (by intro x hx; simp only [codeO, List.mem_cons, List.not_mem_nil, or_false] at hx; omega) (by rw [cd_is]; decide)
  rwa [cd_is] at h
def puL (l : List (List UInt8)) : List UInt8 := l.flatMap fun i => wrQ 6 i
/-- Identifiers that are ones. -/
def PuOk (i : List UInt8) : Prop := (∃ a, oidQ i = some a) ∧ i.length ≤ 300
theorem lenB_300 : ∀ n : Fin 301, (lenB n.val).length ≤ 2 := by decide +kernel
theorem wrQ_len300 (t : UInt8) (b : List UInt8) (h : b.length ≤ 300) : (wrQ t b).length ≤ b.length + 4 := by
  have hl := lenB_300 ⟨b.length, by omega⟩
  unfold wrQ
  split
  · simp
  · simp only [List.length_cons, List.length_append]
    simp only [] at hl
    omega
theorem puL_len : ∀ (l : List (List UInt8)), (∀ i ∈ l, PuOk i) → (puL l).length ≤ 304 * l.length
  | [], _ => Nat.le_refl _
  | i :: r, h => by
    have h1 := puL_len r (fun j hj => h j (List.mem_cons_of_mem _ hj))
    have h2 := (h i (List.mem_cons_self ..)).2
    have h3 := wrQ_len300 6 i h2
    have e : puL (i :: r) = wrQ 6 i ++ puL r := by simp [puL]
    rw [e, List.length_append, List.length_cons]
    omega
theorem puL_all : ∀ (l : List (List UInt8)), (∀ i ∈ l, PuOk i) → allQ (puL l) = some (l.map fun i => (wrQ 6 i, i))
  | [], _ => all_nil
  | i :: r, h => by
    have h2 := (h i (List.mem_cons_self ..)).2
    have e : puL (i :: r) = wrQ 6 i ++ puL r := by simp [puL]
    rw [e, allS (by decide) (by omega) (puL_all r (fun j hj => h j (List.mem_cons_of_mem _ hj)))]
    rfl
theorem puG_run : ∀ (l : List (List UInt8)) (c : Bool), (∀ i ∈ l, PuOk i) → puG (l.map fun i => (wrQ 6 i, i)) c = some (c || l.any (fun i => decide (i = cdB)))
  | [], c, _ => by simp [puG]
  | i :: r, c, h => by
    obtain ⟨a, ha⟩ := (h i (List.mem_cons_self ..)).1
    have e : decide (a = codeO) = decide (i = cdB) := by
      by_cases hc : i = cdB
      · subst hc
        rw [cd_oid] at ha
        cases ha
        rfl
      · rw [decide_eq_false hc]
        refine decide_eq_false ?_
        rintro rfl
        exact hc (oid_inj ha cd_oid)
    simp only [List.map_cons, puG]
    rw [od_wr a i ha]
    simp only [Option.bind_some]
    rw [puG_run r _ (fun j hj => h j (List.mem_cons_of_mem _ hj)), e]
    simp [Bool.or_assoc]
/-- What an extension of purposes comes to. -/
theorem pu_one (l : List (List UInt8)) (h : ∀ i ∈ l, PuOk i) (h20 : l.length ≤ 20) (crit : Bool) : exsV [(o37, crit, wrQ 48 (puL l))] = if l = [] then none else some { xt0 with code := l.any (fun i => decide (i = cdB)) } := by
  have hl := puL_len l h
  have hw := wrQ_len 48 (puL l) (by omega)
  unfold exsV
  rw [if_neg (by simp)]
  simp only [List.map_cons, List.map_nil]
  rw [es_one (o37, crit, wrQ 48 (puL l)) [2, 5, 29, 37] [] [] xt0 (show oidQ o37 = _ by decide +kernel) (by simp) ⟨show o37.length ≤ _ by decide, by simp only []; omega⟩]
  unfold exQ
  rw [if_neg (by decide), if_neg (by decide), if_pos rfl, si_wr 48 _ (by decide) (by omega)]
  simp only [Option.bind_some]
  unfold puQ
  rw [wi_wr 48 _ 48 rfl, puL_all l h]
  simp only [Option.bind_some]
  cases l with
  | nil => rfl
  | cons i r =>
    have hp := puG_run (i :: r) false h
    simp only [List.map_cons] at hp ⊢
    rw [hp]
    rfl
theorem pu_str (xs : List Nat) (hw : ∀ x ∈ xs, x < 18446744073709551616) : PuOk (strQ (putoidQ xs)) := by
  obtain ⟨a, ha, _⟩ := str_oid xs hw
  exact ⟨⟨a, ha⟩, str_fits xs⟩
theorem pu_cd : PuOk cdB := ⟨⟨_, cd_oid⟩, by decide⟩
end Go.Proofs.Ytomolfdcdmncoaa
