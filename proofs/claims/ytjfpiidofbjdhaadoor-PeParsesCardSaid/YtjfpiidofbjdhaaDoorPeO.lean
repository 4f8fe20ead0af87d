/-
  pe: the image of the anchor, read.
-/
import Derived.Test.YtjfpiidofbjdhaaDoorPeM
import Derived.Test.YtjfpiidofbjdhaaDoorPeJ
namespace Go.Proofs.YtjfpiidofbjdhaaDoor
open Go.RowKit Go
set_option linter.unusedVariables false
set_option maxRecDepth 100000
def wImg : List UInt8 := writeL false [] [] [[1, 2], [3]] [1] [] [[48, 7]]
theorem wImg_len : wImg.length = 416 := by decide +kernel
theorem wImg_secs : secsQ wImg = [(393, 2), (392, 1)] := by decide +kernel
theorem wImg_hdr : hdrQ wImg = 392 := by decide +kernel
theorem wImg_rise : riseL (secsQ wImg) = [(392, 1), (393, 2)] := by
  rw [wImg_secs]
  have h := chain_same [(393, 2), (392, 1)] [(392, 1), (393, 2)] 392 (List.Perm.swap _ _ _) (by decide) (by decide)
  have h1 : (chainS [(392, 1), (393, 2)] 392).1 = true := by decide
  exact (h.2 (by rw [← h.1, h1])).symm
theorem wImg_sec : secB wImg = true := by
  unfold secB endQ
  rw [wImg_rise, wImg_hdr, wImg_len]
  have h : secIn wImg (tabQ wImg) (cntQ wImg) = true := by decide +kernel
  rw [h]
  decide
theorem wImg_end : endQ wImg = 395 := by
  unfold endQ
  rw [wImg_rise, wImg_hdr]
  decide
theorem wImg_rows : rowsQ wImg 400 = some [[48, 7]] := by
  rw [rowsQ, dif_pos (by rw [wImg_len]; decide), dif_pos (by decide +kernel : rowOk wImg 400 = true), if_pos (by decide +kernel : fillB wImg 400 = true)]
  rw [show 400 + padQ wImg 400 = 416 by decide +kernel, rowsQ, dif_neg (by rw [wImg_len]; decide)]
  rw [show cut wImg (400 + 8) (numQ wImg 400 4 - 8) = [48, 7] by decide +kernel]
  rfl
def wIm : Im := ⟨false, 152, 216, 392, [(393, 2), (392, 1)], 400, 16, [[48, 7]]⟩
theorem works_parse : parseQ wImg = .inr wIm := by
  unfold parseQ
  have a1 : hdB wImg = true := by decide +kernel
  have a2 : dirB wImg = true := by decide +kernel
  have a3 : ctQ wImg = 400 := by decide +kernel
  have a4 : clQ wImg = 16 := by decide +kernel
  have a5 : optQ wImg = 88 := by decide +kernel
  have a6 : dirQ wImg = 216 := by decide +kernel
  have a7 : decide (magQ wImg = 523) = false := by decide +kernel
  rw [wImg_len, a1, a2, wImg_sec, a3, a4, wImg_end, wImg_rows]
  unfold imOf
  rw [a5, a6, a7, wImg_hdr, wImg_secs]
  rfl
theorem nil_parse : parseQ [] = .inl 9 := by
  unfold parseQ
  have h : hdB [] = false := by decide +kernel
  rw [h]
  rfl
end Go.Proofs.YtjfpiidofbjdhaaDoor
