/-
  cert: what is read keeps its bounds (plain words).
-/
import Derived.Test.YtomolfdcdmncoaaCgD
namespace Go.Proofs.Ytomolfdcdmncoaa
open Go.RowKit Go
set_option linter.unusedVariables false
set_option linter.unusedSimpArgs false
set_option maxRecDepth 100000
def XtOk (c : Xt) : Prop := -1 ≤ c.path ∧ c.path ≤ 255 ∧ (c.ca = true ∨ c.path = -1) ∧ -1 ≤ c.usage ∧ c.usage ≠ 0 ∧ c.usage < 512
theorem xt0_ok : XtOk xt0 := by unfold XtOk xt0; simp
theorem bitN_lt2 (b : List UInt8) (i : Nat) : bitN b i < 2 := Nat.mod_lt _ (by decide)
theorem sumB_lt2 (b : List UInt8) : ∀ k, sumB b k < 2 ^ k
  | 0 => by simp [sumB]
  | k + 1 => by
    have h := sumB_lt2 b k
    have h2 := bitN_lt2 b k
    simp only [sumB]
    rw [Nat.pow_succ]
    have : bitN b k * 2 ^ k ≤ 1 * 2 ^ k := Nat.mul_le_mul_right _ (by omega)
    omega
theorem us_back {x : El} {u : Nat} (h : usQ x = some u) : 0 < u ∧ u < 512 := by
  unfold usQ at h
  obtain ⟨_, h1, h⟩ := Option.bind_eq_some_iff.1 h
  obtain ⟨p, h2, h⟩ := Option.bind_eq_some_iff.1 h
  obtain ⟨_, h3, h⟩ := Option.bind_eq_some_iff.1 h
  obtain ⟨_, h4, h⟩ := Option.bind_eq_some_iff.1 h
  have g3 : p.2 < 8 * p.1.length ∧ 8 * p.1.length - p.2 ≤ 9 := gd_some h3
  have g4 : bitN p.1 (8 * p.1.length - p.2 - 1) = 1 := gd_some h4
  simp only [Option.some.injEq] at h
  have hk : 8 * p.1.length - p.2 = (8 * p.1.length - p.2 - 1) + 1 := by omega
  have hlt := sumB_lt2 p.1 (8 * p.1.length - p.2)
  have hp : 2 ^ (8 * p.1.length - p.2) ≤ 2 ^ 9 := Nat.pow_le_pow_right (by decide) g3.2
  rw [h] at hlt
  rw [hk] at h
  simp only [sumB] at h
  rw [g4, Nat.one_mul] at h
  have := Nat.two_pow_pos (8 * p.1.length - p.2 - 1)
  omega
theorem sm_back {x : El} {m v : Nat} (h : smQ x m = some v) : v < m := by
  unfold smQ at h
  obtain ⟨b, h1, h⟩ := Option.bind_eq_some_iff.1 h
  obtain ⟨_, h2, h⟩ := Option.bind_eq_some_iff.1 h
  obtain ⟨_, h3, h⟩ := Option.bind_eq_some_iff.1 h
  have g3 : beN b < m := gd_some h3
  simp only [Option.some.injEq] at h
  omega
theorem co_back {x : El} {p : Bool × Int} (h : coQ x = some p) : -1 ≤ p.2 ∧ p.2 ≤ 255 ∧ (p.1 = true ∨ p.2 = -1) := by
  unfold coQ at h
  obtain ⟨l, h1, h⟩ := Option.bind_eq_some_iff.1 h
  cases l with
  | nil => cases h; simp
  | cons a r =>
    simp only [] at h
    obtain ⟨_, h2, h⟩ := Option.bind_eq_some_iff.1 h
    cases r with
    | nil => cases h; simp
    | cons b s =>
      simp only [] at h
      obtain ⟨v, h3, h⟩ := Option.bind_eq_some_iff.1 h
      obtain ⟨_, h4, h⟩ := Option.bind_eq_some_iff.1 h
      have := sm_back h3
      simp only [Option.some.injEq] at h
      subst h
      simp only [true_or, and_true]
      omega
theorem ex_back {c c' : Xt} {a : List Nat} {crit : Bool} {b : List UInt8} (hc : XtOk c) (h : exQ c a crit b = some c') : XtOk c' := by
  unfold exQ at h
  split at h
  · obtain ⟨y, h1, h⟩ := Option.bind_eq_some_iff.1 h
    obtain ⟨p, h2, h⟩ := Option.bind_eq_some_iff.1 h
    have h3 := co_back h2
    simp only [Option.some.injEq] at h
    subst h
    exact ⟨h3.1, h3.2.1, h3.2.2, hc.2.2.2⟩
  · split at h
    · obtain ⟨y, h1, h⟩ := Option.bind_eq_some_iff.1 h
      obtain ⟨u, h2, h⟩ := Option.bind_eq_some_iff.1 h
      have h3 := us_back h2
      simp only [Option.some.injEq] at h
      subst h
      refine ⟨hc.1, hc.2.1, hc.2.2.1, ?_, ?_, ?_⟩ <;> simp only [] <;> omega
    · split at h
      · obtain ⟨y, h1, h⟩ := Option.bind_eq_some_iff.1 h
        obtain ⟨u, h2, h⟩ := Option.bind_eq_some_iff.1 h
        simp only [Option.some.injEq] at h
        subst h
        exact hc
      · split at h
        · cases h
        · simp only [Option.some.injEq] at h
          subst h
          exact hc
theorem esG_back : ∀ (l : List El) (seen : List (List UInt8)) (c c' : Xt), XtOk c → esG l seen c = some c' → XtOk c'
  | [], seen, c, c', hc, h => by
    simp only [esG, Option.some.injEq] at h
    subst h
    exact hc
  | x :: r, seen, c, c', hc, h => by
    simp only [esG] at h
    obtain ⟨p, h1, h⟩ := Option.bind_eq_some_iff.1 h
    obtain ⟨c2, h2, h⟩ := Option.bind_eq_some_iff.1 h
    exact esG_back r _ c2 c' (ex_back hc h2) h
theorem exs_back {l : List El} {c : Xt} (h : exsQ l = some c) : XtOk c := by
  unfold exsQ at h
  cases l with
  | nil => simp only [Option.some.injEq] at h; subst h; exact xt0_ok
  | cons x r =>
    simp only [] at h
    obtain ⟨o, h1, h⟩ := Option.bind_eq_some_iff.1 h
    obtain ⟨p, h2, h⟩ := Option.bind_eq_some_iff.1 h
    obtain ⟨m, h3, h⟩ := Option.bind_eq_some_iff.1 h
    obtain ⟨c2, h4, h⟩ := Option.bind_eq_some_iff.1 h
    obtain ⟨_, h5, h⟩ := Option.bind_eq_some_iff.1 h
    obtain ⟨_, h6, h⟩ := Option.bind_eq_some_iff.1 h
    simp only [Option.some.injEq] at h
    subst h
    unfold esQ at h4
    cases m with
    | nil => cases h4
    | cons z s => exact esG_back _ _ _ _ xt0_ok h4
end Go.Proofs.Ytomolfdcdmncoaa
