/-
  option: the statement on labels, its row.
-/
import Derived.Test.YtokklcfdfjgbjaaDoorOpS
import Derived.Test.YtokklcfdfjgbjaaDoorOpT1
import Derived.Test.YtokklcfdfjgbjaaDoorOpT2
namespace Go.Proofs.YtokklcfdfjgbjaaDoor
open Go.RowKit Go
set_option linter.unusedVariables false
set_option maxRecDepth 100000
theorem labels_row (t : Turn) (w : World) (hI : IsTurn w t) (hl2 : t.o.l.size ≤ 2000000) (hpn2 : t.o.pn ≤ 2000000) (hdn2 : t.o.dn ≤ 2000000) (hT : Sizes w) :
    Calls Tryd.prog 8 #[turnV t] w fun e w' => e = .returned (.bool true) ∧ Below w.heap.size w w' := by
  obtain ⟨⟨a, l, P, pn, pc, pb, D, dn, dc, db⟩, at_, x, s⟩ := t
  obtain ⟨⟨ha, hl, hp, hd⟩, hat, hs⟩ := hI
  unfold turnV
  simp only at *
  have hP := hp.rb
  have hD := hd.rb
  by_cases hok : l.data.toList.all letter = true ∧ pn ≤ 65535
  · obtain ⟨hall, hpn9⟩ := hok
    by_cases hbig : 16384 < l.size ∨ 65536 < dn
    · exact labels_e4 a l P pn pc pb D dn dc db at_ x s w ha hP hD hat hs hl2 hdn2 hpn2 hT hpn9 hall hbig
    by_cases h3 : 4096 < pn
    · exact labels_e5 a l P pn pc pb D dn dc db at_ x s w ha hP hD hat hs hl2 hdn2 hpn2 hT hpn9 hall (by omega) (by omega) h3
    have h1 : l.size ≤ 16384 := by omega
    have h2 : dn ≤ 65536 := by omega
    have h3 : pn ≤ 4096 := by omega
    by_cases hfit : s ≤ pn + dn
    · by_cases hz : l.size = 0
      · exact labels_fz a l P pn pc pb D dn dc db at_ x s w ha hP hD hat hs hl2 hdn2 hpn2 hT hall h1 h2 h3 hfit hz
      · by_cases hk : at_ % (2 * l.size) % 2 = 1
        · by_cases hx : x.toNat ≠ 0
          · exact labels_fro a l P pn pc pb D dn dc db at_ x s w ha hP hD hat hs hl2 hdn2 hpn2 hT hall h1 h2 h3 hfit (by omega) hk hx
          · exact labels_fno a l P pn pc pb D dn dc db at_ x s w ha hP hD hat hs hl2 hdn2 hpn2 hT hall h1 h2 h3 hfit (by omega) hk (by omega)
        · by_cases hx : 127 < x.toNat
          · exact labels_fre a l P pn pc pb D dn dc db at_ x s w ha hP hD hat hs hl2 hdn2 hpn2 hT hall h1 h2 h3 hfit (by omega) (by omega) hx
          · exact labels_fne a l P pn pc pb D dn dc db at_ x s w ha hP hD hat hs hl2 hdn2 hpn2 hT hall h1 h2 h3 hfit (by omega) (by omega) (by omega)
    · by_cases hz : l.size = 0
      · exact labels_nz a l P pn pc pb D dn dc db at_ x s w ha hP hD hat hs hl2 hdn2 hpn2 hT hall h1 h2 h3 hfit hz
      · by_cases hk : at_ % (2 * l.size) % 2 = 1
        · by_cases hx : x.toNat ≠ 0
          · exact labels_nro a l P pn pc pb D dn dc db at_ x s w ha hP hD hat hs hl2 hdn2 hpn2 hT hall h1 h2 h3 hfit (by omega) hk hx
          · exact labels_nno a l P pn pc pb D dn dc db at_ x s w ha hP hD hat hs hl2 hdn2 hpn2 hT hall h1 h2 h3 hfit (by omega) hk (by omega)
        · by_cases hx : 127 < x.toNat
          · exact labels_nre a l P pn pc pb D dn dc db at_ x s w ha hP hD hat hs hl2 hdn2 hpn2 hT hall h1 h2 h3 hfit (by omega) (by omega) hx
          · exact labels_nne a l P pn pc pb D dn dc db at_ x s w ha hP hD hat hs hl2 hdn2 hpn2 hT hall h1 h2 h3 hfit (by omega) (by omega) (by omega)
  · have hno : l.data.toList.all letter = false ∨ 65535 < pn := by
      cases h : l.data.toList.all letter with
      | false => exact .inl rfl
      | true => exact .inr (by rcases Nat.lt_or_ge 65535 pn with h9 | h9; exact h9; exact absurd ⟨h, h9⟩ hok)
    by_cases hbig : 16384 < l.size ∨ 65536 < dn
    · exact labels_e1 a l P pn pc pb D dn dc db at_ x s w ha hP hD hat hs hl2 hdn2 hpn2 hT hno hbig
    by_cases h3 : 4096 < pn
    · exact labels_e2 a l P pn pc pb D dn dc db at_ x s w ha hP hD hat hs hl2 hdn2 hpn2 hT hno (by omega) (by omega) h3
    · exact labels_e3 a l P pn pc pb D dn dc db at_ x s w ha hP hD hat hs hl2 hdn2 hpn2 hT hno (by omega) (by omega) (by omega)
end Go.Proofs.YtokklcfdfjgbjaaDoor
