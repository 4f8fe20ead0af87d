/-
  cert: what is read was written so (plain words): the whole of a certificate, and what its parts keep.
-/
import Derived.Test.YtomolfdcdmncoaaCgC
namespace Go.Proofs.Ytomolfdcdmncoaa
open Go.RowKit Go
set_option linter.unusedVariables false
set_option linter.unusedSimpArgs false
set_option maxRecDepth 100000
theorem sgn_alg : sgnB = wrQ 48 (algI (putoidQ (meO 11))) := by decide +kernel
theorem wb_back {x : El} {s : List UInt8} (hx : ElW x) (h : wbQ x = some s) : x.1 = wrQ 3 (0 :: s) := by
  unfold wbQ at h
  obtain ⟨_, h1, h⟩ := Option.bind_eq_some_iff.1 h
  obtain ⟨p, h2, h⟩ := Option.bind_eq_some_iff.1 h
  obtain ⟨_, h3, h⟩ := Option.bind_eq_some_iff.1 h
  have g1 : tg x = 3 := gd_some h1
  have g3 : p.2 = 0 := gd_some h3
  rw [tg_back hx 3 g1]
  cases hb : x.2 with
  | nil => rw [hb] at h2; cases h2
  | cons d r =>
    rw [hb] at h2
    simp only [bitsQ] at h2
    split at h2
    · cases h2
    · split at h2
      · cases h2
      · have e := Option.some.inj h2
        subst e
        simp only [] at g3
        simp only [Option.some.injEq] at h
        subst h
        rw [show d = 0 from UInt8.toNat_inj.1 g3]
/-- A certificate that is read is its parts, written. -/
theorem cert_back {b : List UInt8} {c : Ce} (h : certQ b = .inr c) : b.length ≤ 8192 ∧ c.raw = b ∧ b = certB c.tbs c.sig ∧ ∃ x c', ElW x ∧ x.1 = c.tbs ∧ tbQ x = some c' ∧ c = { c' with sig := c.sig, raw := b, tbs := x.1 } := by
  unfold certQ at h
  split at h
  · cases h
  rename_i hl
  split at h
  · cases h
  cases hw : whQ b with
  | none => rw [hw] at h; cases h
  | some c9 =>
    rw [hw] at h
    simp only [Sum.inr.injEq] at h
    subst h
    unfold whQ at hw
    obtain ⟨y, h1, hw⟩ := Option.bind_eq_some_iff.1 hw
    obtain ⟨y1, yw⟩ := si_back h1
    obtain ⟨l, h2, hw⟩ := Option.bind_eq_some_iff.1 hw
    obtain ⟨yt, le, lf⟩ := wi_back h2
    cases l with
    | nil => cases hw
    | cons x l =>
      simp only [nxQ, Option.bind_some] at hw
      obtain ⟨c', h3, hw⟩ := Option.bind_eq_some_iff.1 hw
      cases l with
      | nil => cases hw
      | cons a l =>
        simp only [Option.bind_some] at hw
        obtain ⟨_, h4, hw⟩ := Option.bind_eq_some_iff.1 hw
        cases l with
        | nil => cases hw
        | cons s l =>
          simp only [Option.bind_some] at hw
          obtain ⟨sg, h5, hw⟩ := Option.bind_eq_some_iff.1 hw
          cases l with
          | cons z l => cases hw
          | nil =>
            simp only [enQ, Option.bind_some, Option.some.injEq] at hw
            have xw := le x (by simp)
            have ha := me_back (le a (by simp)) h4
            have hs := wb_back (le s (by simp)) h5
            have hy := tg_back yw 48 yt
            refine ⟨by omega, by rw [← hw], ?_, x, c', xw, by rw [← hw], h3, ?_⟩
            · rw [← hw]
              simp only []
              unfold certB
              rw [sgn_alg, ← ha, ← hs, ← y1, hy, ← lf]
              simp only [List.map_cons, List.map_nil, List.flatten_cons, List.flatten_nil, List.append_nil]
            · rw [← hw]
end Go.Proofs.Ytomolfdcdmncoaa
