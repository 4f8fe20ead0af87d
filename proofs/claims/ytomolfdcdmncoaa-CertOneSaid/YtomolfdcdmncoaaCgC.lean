/-
  cert: what is read was written so (plain words): the elements of a certificate.
-/
import Derived.Test.YtomolfdcdmncoaaCfZ
namespace Go.Proofs.Ytomolfdcdmncoaa
open Go.RowKit Go
set_option linter.unusedVariables false
set_option linter.unusedSimpArgs false
set_option maxRecDepth 100000
/-- An element with its bytes. -/
def ElW (p : El) : Prop := ∃ t : UInt8, t.toNat % 32 ≠ 31 ∧ p.1 = wrQ t p.2 ∧ p.2.length < 4294967296
theorem si_back {b : List UInt8} {y : El} (h : siQ b = some y) : y.1 = b ∧ ElW y := by
  unfold siQ at h
  cases hq : splitQ b with
  | none => rw [hq] at h; cases h
  | some p =>
    obtain ⟨s, e⟩ := p
    rw [hq] at h
    simp only [Option.bind_some] at h
    by_cases he : e = b.length
    · rw [gd_yes he] at h
      simp only [Option.bind_some, Option.some.injEq] at h
      subst h
      have h1 := wr_split hq
      have h2 := splitQ_small hq
      refine ⟨by simp only [he, List.take_length], b.getD 0 0, splitQ_tag hq, h1, ?_⟩
      simp only [List.length_drop, List.length_take]
      omega
    · rw [gd_no he] at h
      cases h
theorem all_back : ∀ (k : Nat) (bs : List UInt8) (l : List El), bs.length ≤ k → allQ bs = some l → (∀ p ∈ l, ElW p) ∧ (l.map Prod.fst).flatten = bs
  | 0, bs, l, hk, h => by
    obtain rfl : bs = [] := List.length_eq_zero_iff.1 (by omega)
    rw [allQ_nil] at h
    cases h
    exact ⟨fun p hp => by (cases hp), rfl⟩
  | k + 1, bs, l, hk, h => by
    by_cases hn : bs = []
    · subst hn
      rw [allQ_nil] at h
      cases h
      exact ⟨fun p hp => by (cases hp), rfl⟩
    cases hq : splitQ bs with
    | none => rw [allQ_none hn hq] at h; cases h
    | some p =>
      obtain ⟨s, t⟩ := p
      rw [allQ_some hq] at h
      obtain ⟨l', h1, rfl⟩ := Option.map_eq_some_iff.1 h
      have hle := splitQ_le hq
      obtain ⟨e1, e2⟩ := all_back k (bs.drop t) l' (by rw [List.length_drop]; omega) h1
      refine ⟨fun p hp => ?_, ?_⟩
      · rcases List.mem_cons.1 hp with rfl | hp
        · refine ⟨bs.getD 0 0, splitQ_tag hq, wr_split hq, ?_⟩
          have := splitQ_small hq
          simp only [List.length_drop, List.length_take]
          omega
        · exact e1 p hp
      · simp only [List.map_cons, List.flatten_cons, e2]
        exact List.take_append_drop _ _
/-- An element of a known kind. -/
theorem tg_back {p : El} (h : ElW p) (t : UInt8) (ht : tg p = t.toNat) : p.1 = wrQ t p.2 := by
  obtain ⟨t2, _, e, _⟩ := h
  have e9 : p = (wrQ t2 p.2, p.2) := Prod.ext e rfl
  rw [e9, tg_wr] at ht
  rw [e, UInt8.toNat_inj.1 ht]
theorem gd_of {P : Prop} [Decidable P] {u : Unit} (h : gd P = some u) : P := by
  by_cases hp : P
  · exact hp
  · rw [gd_no hp] at h; cases h
/-- The elements within one of a known kind. -/
theorem wi_back {x : El} {k : Nat} {l : List El} (h : wiQ x k = some l) : tg x = k ∧ (∀ p ∈ l, ElW p) ∧ (l.map Prod.fst).flatten = x.2 := by
  unfold wiQ at h
  obtain ⟨u, h1, h2⟩ := Option.bind_eq_some_iff.1 h
  have h3 := all_back _ x.2 l (Nat.le_refl _) h2
  exact ⟨gd_of h1, h3.1, h3.2⟩
/-- A method that is one has its bytes. -/
theorem me_back {x : El} {k : Nat} (hx : ElW x) (h : meQ x k = some ()) : x.1 = wrQ 48 (algI (putoidQ (meO k))) := by
  unfold meQ at h
  obtain ⟨l, h1, h⟩ := Option.bind_eq_some_iff.1 h
  obtain ⟨t1, e1, f1⟩ := wi_back h1
  cases l with
  | nil => cases h
  | cons a l =>
    simp only [nxQ, Option.bind_some] at h
    obtain ⟨ar, h2, h⟩ := Option.bind_eq_some_iff.1 h
    obtain ⟨_, h3, h⟩ := Option.bind_eq_some_iff.1 h
    have h3 := gd_of h3
    unfold odQ at h2
    obtain ⟨_, h4, h5⟩ := Option.bind_eq_some_iff.1 h2
    have h4 := gd_of h4
    cases l with
    | nil => cases h
    | cons b l =>
      simp only [nxQ, Option.bind_some] at h
      obtain ⟨_, h6, h⟩ := Option.bind_eq_some_iff.1 h
      have g6 : tg b = 5 ∧ b.2 = [] := gd_some h6
      cases l with
      | cons c l => cases h
      | nil =>
        have ha := tg_back (e1 a (by simp)) 6 h4
        have hb := tg_back (e1 b (by simp)) 5 g6.1
        have hx2 := tg_back hx 48 t1
        rw [hx2, ← f1]
        simp only [List.map_cons, List.map_nil, List.flatten_cons, List.flatten_nil, List.append_nil]
        unfold algI
        rw [ha, hb, g6.2, five_is, show meO k = ar from h3.symm, oid_back h5]
end Go.Proofs.Ytomolfdcdmncoaa
