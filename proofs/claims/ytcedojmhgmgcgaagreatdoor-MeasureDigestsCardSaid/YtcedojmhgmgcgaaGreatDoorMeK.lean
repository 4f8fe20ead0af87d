/-
  measure: the image of the anchor, and its digest.
-/
import Derived.Test.YtcedojmhgmgcgaaGreatDoorMeC
import Derived.Test.YtcedojmhgmgcgaaGreatDoorMeJ
import Derived.Test.YtcedojmhgmgcgaaGreatDoorMp3
namespace Go.Proofs.YtcedojmhgmgcgaaGreatDoor
open Go.RowKit Go
set_option linter.unusedVariables false
set_option linter.unusedSimpArgs false
set_option maxRecDepth 100000
attribute [local go_sem] Oper.semAt_some
theorem digest_any (A : Option Addr) (n c : Nat) (bs : List UInt8) (w : World) (hR : RB w A n bs) (hS : Sizes w) (hnc : n ≤ c) (hcc : c ≤ 9223372036854775807) :
    Calls Tryz.prog 6 #[.slice A n c] w (DigestP w bs) := by
  unfold DigestP
  cases hq : parseQ bs with
  | inl er => exact digest_no A n c bs w hR hS hnc hcc er hq
  | inr im => exact digest_yes A n c bs w hR hS hnc hcc im hq
/-- The digest hangs on the bytes that are hashed. -/
theorem digQ_of (bs bs' : List UInt8) (im im' : Im) (h : hashedL bs (rangesM im bs.length) = hashedL bs' (rangesM im' bs'.length)) : digQ bs im = digQ bs' im' := by
  unfold digQ
  rw [h]
def wI : List UInt8 := writeL false [] [] [[1, 2]] [] [] [[48, 7]]
theorem wI_len : wI.length = 376 := by decide +kernel
theorem wI_made : ∃ t l, Made wI false 64 1 352 [[1, 2]] (ordL 1 []) [[48, 7]] t l := by
  obtain ⟨t, l, h, _⟩ := write_made false [] [] [[1, 2]] [] [] [[48, 7]] ⟨by decide, by decide, by decide, (by intro s hs; simp at hs; subst hs; decide), by decide, by decide, (by intro s hs; simp at hs; subst hs; decide)⟩
  exact ⟨t, l, h⟩
/-- What is read of it. -/
theorem wI_parse : ∃ im : Im, parseQ wI = .inr im ∧ im.check = 152 ∧ im.dir = 216 ∧ im.hdr = 352 ∧ im.length = 16 ∧ im.secs = [(352, 2)] ∧ im.sigs = [[48, 7]] ∧ (∀ b' : List UInt8, b'.length = wI.length → (∀ i, (i < 152 ∨ 156 ≤ i) → b'[i]? = wI[i]?) → parseQ b' = .inr im) := by
  obtain ⟨t, l, h⟩ := wI_made
  have hp := h.parse
  rw [if_neg (by decide)] at hp
  have hl : l = 16 := by
    have h1 := (h.yes (by decide)).2.2.2.2.2
    rw [h1]
    decide
  subst hl
  refine ⟨_, hp, rfl, rfl, rfl, rfl, by show plcL _ _ _ _ = _; decide +kernel, rfl, fun b' hb ha => ?_⟩
  rw [h.check b' hb (fun i hi _ => ha i (by omega))]
  exact hp
def cI : List UInt8 := wI.set 152 99
theorem wI_hashed (im : Im) (h : parseQ wI = .inr im) (h1 : im.check = 152) (h2 : im.dir = 216) (h3 : im.length = 16) : hashedL wI (rangesM im wI.length) = seg wI (0, 152) ++ seg wI (156, 216) ++ seg wI (224, 360) := by
  have he := (im_chain wI im h).2.2.2
  rw [wI_len] at he
  have h4 := hashed_im wI im h
  rw [h4, h1, h2, wI_len, show endM im 376 = 360 by omega]
theorem dig_same9 (im : Im) (b' : List UInt8) (hb : b'.length = wI.length) (ha : ∀ i, (i < 152 ∨ 156 ≤ i) → b'[i]? = wI[i]?) (h : parseQ wI = .inr im) (h1 : im.check = 152) (h2 : im.dir = 216) (h3 : im.length = 16) (hp : parseQ b' = .inr im) : digQ b' im = digQ wI im := by
  refine digQ_of _ _ _ _ ?_
  rw [hashed_im b' im hp, hashed_im wI im h, hb, h1, h2]
  have he := (im_chain wI im h).2.2.2
  rw [wI_len] at he
  rw [wI_len, show endM im 376 = 360 by omega]
  rw [seg_agree (b := wI) (by omega) (fun i h1 h2 => ha i (by omega)), seg_agree (b := wI) (b' := b') (by omega) (fun i h1 h2 => ha i (by omega)), seg_agree (b := wI) (b' := b') (x := 224) (by omega) (fun i h1 h2 => ha i (by omega))]
theorem dig_not9 : (sumQ ((seg wI (0, 152) ++ seg wI (156, 216) ++ seg wI (224, 360)).map UInt8.toNat) (seg wI (0, 152) ++ seg wI (156, 216) ++ seg wI (224, 360)).length == z32) = false := by kernel_rfl
theorem wI_dig (im : Im) (h : parseQ wI = .inr im) (h1 : im.check = 152) (h2 : im.dir = 216) (h3 : im.length = 16) : decide (digQ wI im = z32) = false := by
  have h5 := dig_not9
  rw [← wI_hashed im h h1 h2 h3] at h5
  rw [decide_eq_false_iff_not]
  intro e
  unfold digQ at e
  rw [e] at h5
  simp at h5
theorem wI_ranges (im : Im) (h : im.secs = [(352, 2)]) : 4 ≤ (rangesM im wI.length).length := by
  unfold rangesM rangesL headR secR
  have h1 := (riseL_perm im.secs).length_eq
  rw [h] at h1 ⊢
  simp at h1 ⊢
  omega
end Go.Proofs.YtcedojmhgmgcgaaGreatDoor
