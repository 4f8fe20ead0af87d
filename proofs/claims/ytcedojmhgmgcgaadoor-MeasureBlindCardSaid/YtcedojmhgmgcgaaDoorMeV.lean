/-
  measure: two images that differ in their signatures and the checksum: one digest.
-/
import Derived.Test.YtcedojmhgmgcgaaDoorMeM
import Derived.Test.YtcedojmhgmgcgaaDoorMp9
import Derived.StillTailTactics
import Derived.Deep.Cut
namespace Go.Proofs.YtcedojmhgmgcgaaDoor
open Go.RowKit Go
set_option linter.unusedVariables false
set_option linter.unusedSimpArgs false
set_option maxRecDepth 100000
attribute [local go_sem] Oper.semAt_some
theorem blind_dig (plus : Bool) (stub fill : List UInt8) (bods : List (List UInt8)) (ord : List Int) (beh : List UInt8) (s1 s2 : List (List UInt8)) (h1 : BD stub fill bods beh s1) (h2 : BD stub fill bods beh s2) (n1 : s1 ≠ []) (n2 : s2 ≠ []) (g1 : s1.length ≤ 8) (g2 : s2.length ≤ 8) :
    ∃ im1, parseQ (writeL plus stub fill bods ord beh s1) = .inr im1 ∧ 64 ≤ im1.check ∧ im1.check + 4 ≤ (writeL plus stub fill bods ord beh s2).length ∧ (writeL plus stub fill bods ord beh s2).length ≤ 100000 ∧
      ∀ b' : List UInt8, b'.length = (writeL plus stub fill bods ord beh s2).length → (∀ i, (i < im1.check ∨ im1.check + 4 ≤ i) → b'[i]? = (writeL plus stub fill bods ord beh s2)[i]?) →
        ∃ im2, parseQ b' = .inr im2 ∧ im2.sigs.length = s2.length ∧ digQ b' im2 = digQ (writeL plus stub fill bods ord beh s1) im1 := by
  obtain ⟨t, e1, e2, e3⟩ := blind_bytes plus stub fill bods ord beh s1 s2 h1 h2 n1 n2
  obtain ⟨t1, l1, M1, _⟩ := write_made plus stub fill bods ord beh s1 h1
  obtain ⟨t2, l2, M2, _⟩ := write_made plus stub fill bods ord beh s2 h2
  have p1 := M1.parse
  have p2 := M2.parse
  rw [if_neg (by omega)] at p1 p2
  obtain ⟨y1, y2, y3, y4, y5, y6⟩ := M1.yes n1
  obtain ⟨z1, z2, z3, z4, z5, z6⟩ := M2.yes n2
  have hsz := sizeL_two plus
  have et : tbL plus stub = peL stub + 24 + sizeL plus := rfl
  have ep : peL stub = 64 + stub.length := rfl
  have eh : hdL plus stub fill bods.length = tbL plus stub + 40 * bods.length + fill.length := rfl
  generalize writeL plus stub fill bods ord beh s1 = b1 at *
  generalize writeL plus stub fill bods ord beh s2 = b2 at *
  obtain ⟨c1, c2, c3, c4⟩ := im_chain b1 _ p1
  have hck : (imL plus (peL stub) bods.length (hdL plus stub fill bods.length) bods (ordL bods.length ord) t1 l1 s1).check = peL stub + 88 := rfl
  refine ⟨_, p1, by rw [hck]; omega, by rw [hck]; omega, M2.big, fun b' hl ha => ?_⟩
  rw [hck] at ha
  have p3 := (M2.check b' hl (fun i hi _ => ha i hi)).trans p2
  refine ⟨_, p3, rfl, digQ_of _ _ _ _ ?_⟩
  obtain ⟨d1, d2, d3, d4⟩ := im_chain b' _ p3
  rw [hashed_im b1 _ p1, hashed_im b' _ p3]
  have c4' : endM (imL plus (peL stub) bods.length (hdL plus stub fill bods.length) bods (ordL bods.length ord) t1 l1 s1) b1.length + l1 = b1.length := c4
  have d4' : endM (imL plus (peL stub) bods.length (hdL plus stub fill bods.length) bods (ordL bods.length ord) t2 l2 s2) b'.length + l2 = b'.length := d4
  rw [show endM (imL plus (peL stub) bods.length (hdL plus stub fill bods.length) bods (ordL bods.length ord) t1 l1 s1) b1.length = t by omega]
  rw [show endM (imL plus (peL stub) bods.length (hdL plus stub fill bods.length) bods (ordL bods.length ord) t2 l2 s2) b'.length = t by omega]
  show seg b' (0, peL stub + 88) ++ seg b' (peL stub + 88 + 4, peL stub + sizeL plus - 72) ++ seg b' (peL stub + sizeL plus - 72 + 8, t) = seg b1 (0, peL stub + 88) ++ seg b1 (peL stub + 88 + 4, peL stub + sizeL plus - 72) ++ seg b1 (peL stub + sizeL plus - 72 + 8, t)
  rw [seg_agree (b := b1) (b' := b') (by omega) (fun i h1 h2 => (ha i (by omega)).trans (e3 i (by omega) (by omega))), seg_agree (b := b1) (b' := b') (by omega) (fun i h1 h2 => (ha i (by omega)).trans (e3 i (by omega) (by omega))), seg_agree (b := b1) (b' := b') (by omega) (fun i h1 h2 => (ha i (by omega)).trans (e3 i (by omega) (by omega)))]
end Go.Proofs.YtcedojmhgmgcgaaDoor
