/-
  cert: all that a certificate that is read keeps (plain words).
-/
import Derived.Test.YtomolfdcdmncoaaCgF
namespace Go.Proofs.Ytomolfdcdmncoaa
open Go.RowKit Go
set_option linter.unusedVariables false
set_option linter.unusedSimpArgs false
set_option maxRecDepth 100000
theorem mo_back {x : El} {t : Tm} (h : moQ x = some t) : rightB t = true := by
  unfold moQ at h
  split at h
  · exact (utcO_some h).1
  · split at h
    · exact genO_some h
    · cases h
/-- All that a certificate that is read keeps. -/
theorem one_back {b : List UInt8} {c : Ce} (h : certQ b = .inr c) : b.length ≤ 8192 ∧ c.raw = b ∧ b = certB c.tbs c.sig ∧ (∃ body, c.tbs = wrQ 48 body ∧ body.length < 4294967296) ∧
    (∃ n, intQ c.ser = some n ∧ 0 < n.length) ∧ c.ser.length ≤ 20 ∧ lessB c.til c.frm = false ∧ rightB c.frm = true ∧ rightB c.til = true ∧ c.e < 8589934592 ∧ XtOk ⟨c.ca, c.path, c.usage, c.code⟩ := by
  obtain ⟨h1, h2, h3, x, c', hx, hr, ht, hc⟩ := cert_back h
  obtain ⟨t1, t2, t3, t4, t5⟩ := tb_back ht
  obtain ⟨y, z, hy, hz⟩ := t3.2
  have hb := tg_back hx 48 t1
  obtain ⟨_, _, _, hl⟩ := hx
  refine ⟨h1, h2, h3, ⟨x.2, by rw [← hr]; exact hb, hl⟩, ?_⟩
  rw [hc]
  exact ⟨t2.1, t2.2, t3.1, mo_back hy, mo_back hz, t4, t5⟩
end Go.Proofs.Ytomolfdcdmncoaa
