/-
  cert: what is read keeps its bounds (plain words): the signed part.
-/
import Derived.Test.YtomolfdcdmncoaaCgE
namespace Go.Proofs.Ytomolfdcdmncoaa
open Go.RowKit Go
set_option linter.unusedVariables false
set_option linter.unusedSimpArgs false
set_option maxRecDepth 100000
theorem se_back {x : El} {s : List UInt8} (h : seQ x = some s) : (∃ n, intQ s = some n ∧ 0 < n.length) ∧ s.length ≤ 20 := by
  unfold seQ nuQ at h
  obtain ⟨n, h1, h⟩ := Option.bind_eq_some_iff.1 h
  obtain ⟨_, h2, h⟩ := Option.bind_eq_some_iff.1 h
  obtain ⟨_, h3, h4⟩ := Option.bind_eq_some_iff.1 h1
  have g2 : 0 < n.length ∧ x.2.length ≤ 20 := gd_some h2
  simp only [Option.some.injEq] at h
  subst h
  exact ⟨⟨n, h4, g2.1⟩, g2.2⟩
theorem sp_back {x : El} {p : Tm × Tm} (h : spQ x = some p) : lessB p.2 p.1 = false ∧ ∃ y z, moQ y = some p.1 ∧ moQ z = some p.2 := by
  unfold spQ at h
  obtain ⟨l, h1, h⟩ := Option.bind_eq_some_iff.1 h
  obtain ⟨q, h2, h⟩ := Option.bind_eq_some_iff.1 h
  obtain ⟨f, h3, h⟩ := Option.bind_eq_some_iff.1 h
  obtain ⟨r, h4, h⟩ := Option.bind_eq_some_iff.1 h
  obtain ⟨t, h5, h⟩ := Option.bind_eq_some_iff.1 h
  obtain ⟨_, h6, h⟩ := Option.bind_eq_some_iff.1 h
  obtain ⟨_, h7, h⟩ := Option.bind_eq_some_iff.1 h
  simp only [Option.some.injEq] at h
  subst h
  exact ⟨gd_some h7, _, _, h3, h5⟩
theorem ke_back {x : El} {p : List UInt8 × Nat} (h : keQ x = some p) : p.2 < 8589934592 := by
  unfold keQ at h
  obtain ⟨_, _, h⟩ := Option.bind_eq_some_iff.1 h
  obtain ⟨_, _, h⟩ := Option.bind_eq_some_iff.1 h
  obtain ⟨_, _, h⟩ := Option.bind_eq_some_iff.1 h
  obtain ⟨_, _, h⟩ := Option.bind_eq_some_iff.1 h
  obtain ⟨_, _, h⟩ := Option.bind_eq_some_iff.1 h
  obtain ⟨_, _, h⟩ := Option.bind_eq_some_iff.1 h
  obtain ⟨_, _, h⟩ := Option.bind_eq_some_iff.1 h
  obtain ⟨_, _, h⟩ := Option.bind_eq_some_iff.1 h
  obtain ⟨_, _, h⟩ := Option.bind_eq_some_iff.1 h
  obtain ⟨_, _, h⟩ := Option.bind_eq_some_iff.1 h
  obtain ⟨_, _, h⟩ := Option.bind_eq_some_iff.1 h
  obtain ⟨e, h9, h⟩ := Option.bind_eq_some_iff.1 h
  obtain ⟨_, _, h⟩ := Option.bind_eq_some_iff.1 h
  simp only [Option.some.injEq] at h
  subst h
  exact sm_back h9
/-- What a signed part that is read keeps. -/
theorem tb_back {x : El} {c : Ce} (h : tbQ x = some c) : tg x = 48 ∧ ((∃ n, intQ c.ser = some n ∧ 0 < n.length) ∧ c.ser.length ≤ 20) ∧ (lessB c.til c.frm = false ∧ ∃ y z, moQ y = some c.frm ∧ moQ z = some c.til) ∧ c.e < 8589934592 ∧ XtOk ⟨c.ca, c.path, c.usage, c.code⟩ := by
  unfold tbQ at h
  obtain ⟨l0, w1, h⟩ := Option.bind_eq_some_iff.1 h
  obtain ⟨_, _, h⟩ := Option.bind_eq_some_iff.1 h
  obtain ⟨_, _, h⟩ := Option.bind_eq_some_iff.1 h
  obtain ⟨_, _, h⟩ := Option.bind_eq_some_iff.1 h
  obtain ⟨_, _, h⟩ := Option.bind_eq_some_iff.1 h
  obtain ⟨_, _, h⟩ := Option.bind_eq_some_iff.1 h
  obtain ⟨_, _, h⟩ := Option.bind_eq_some_iff.1 h
  obtain ⟨_, _, h⟩ := Option.bind_eq_some_iff.1 h
  obtain ⟨_, k1, h⟩ := Option.bind_eq_some_iff.1 h
  obtain ⟨_, _, h⟩ := Option.bind_eq_some_iff.1 h
  obtain ⟨_, _, h⟩ := Option.bind_eq_some_iff.1 h
  obtain ⟨_, _, h⟩ := Option.bind_eq_some_iff.1 h
  obtain ⟨_, _, h⟩ := Option.bind_eq_some_iff.1 h
  obtain ⟨_, _, h⟩ := Option.bind_eq_some_iff.1 h
  obtain ⟨_, k2, h⟩ := Option.bind_eq_some_iff.1 h
  obtain ⟨_, _, h⟩ := Option.bind_eq_some_iff.1 h
  obtain ⟨_, _, h⟩ := Option.bind_eq_some_iff.1 h
  obtain ⟨_, _, h⟩ := Option.bind_eq_some_iff.1 h
  obtain ⟨_, k3, h⟩ := Option.bind_eq_some_iff.1 h
  obtain ⟨_, k4, h⟩ := Option.bind_eq_some_iff.1 h
  simp only [Option.some.injEq] at h
  subst h
  exact ⟨(wi_back w1).1, se_back k1, sp_back k2, ke_back k3, exs_back k4⟩
end Go.Proofs.Ytomolfdcdmncoaa
