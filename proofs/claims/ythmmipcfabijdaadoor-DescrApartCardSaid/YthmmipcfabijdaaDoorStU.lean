/-
  stamp: the document's answer of Write.
-/
import Derived.Test.YthmmipcfabijdaaDoorOctG1
import Derived.Test.YthmmipcfabijdaaDoorUp
import Derived.Test.YthmmipcfabijdaaDoorStN
import Derived.LoopTactic
namespace Go.Proofs.YthmmipcfabijdaaDoor
open Go.RowKit Go
set_option linter.unusedVariables false
set_option maxRecDepth 100000
def lenOf : Value → Nat
  | .slice _ n _ => n
  | _ => 0
theorem zeros_snoc (k : Nat) : List.replicate (k + 1) (0 : UInt8) = List.replicate k 0 ++ [0] := List.replicate_succ'
theorem refWrite_any (t : Tm) (w : World) (hy : t.y < 65536) : Calls Tryd.prog 27 #[tmV t] w (Fresh w (tmB t)) := by
  have P := Lib.hid (fun W => refPut_any none 0 0 [] t.y 2 W (RB.nil _ _) (by omega) (by omega))
  have hlo : lowS t.y 2 = leB t.y 2 := rfl
  have hB : tmB t = (leB t.y 2 ++ [t.mo, t.d, t.h, t.mi, t.s]) ++ List.replicate 9 0 := rfl
  have hl2 := leB_len t.y 2
  rw [hlo, List.nil_append] at P
  rw [hB]
  unfold tmV Tm.cells
  obtain ⟨y, mo, d, h', mi, s'⟩ := t
  simp only at *
  clear hlo hB
  generalize leB y 2 = l at P hl2
  have HL := Lib.hid hl2
  have hl7 : (l ++ [mo, d, h', mi, s']).length = 7 := by rw [List.length_append, HL.out]; rfl
  have HL7 := Lib.hid hl7
  clear hl2 hl7
  go_enter Tryd.func27, Tryd.ntmps27
  go_wp2_with fail
  refine calls_named fun w0 hw0 => ?_
  have hbw0 : Below w.heap.size w w0 := below_named hw0 ((Below.refl _ _).alloc (Nat.le_refl _) _)
  have k0 := heap_named hw0 (heap_alloc_new w _)
  have hs0 := hbw0.size
  clear hw0
  refine (P.out w0).mono ?_
  rintro e w1 ⟨A1, n1, c1, rfl, hown1, hb1⟩
  obtain rfl : 2 = n1 := HL.out.symm.trans hown1.len
  have hbw1 := hbw0.trans (hb1.mono hs0)
  have hs1 := hbw1.size
  have k1 := (hb1.block _ (heap_lt k0)).trans k0
  have hown1' := hown1.lower (base' := w.heap.size) hs0
  obtain ⟨p0, p1, p2, p3, p4, p5⟩ := cells6 k1
  clear hb1 hown1 k0 hbw0
  go_wp2_with (at_builtin; refine wpList_app _ _ rfl rfl rfl w.heap.size A1 2 c1 l rfl (hown1'.alloc _) (w1.heap.size + 1) (some ⟨w1.heap.size, 0, none⟩) 5 [mo, d, h', mi, s'] rfl (bs_new _ _ _ _ _ rfl) (by rw [HL.out]; simp) (by simp; omega) ?_)
  intro A2 c2 w2 hown2 hg2
  have hb2 : Below w.heap.size w w2 := (hbw1.alloc hs1 _).grown hg2 (by simp; omega) (fun k hk => (hown1'.blk_lt hk).1)
  clear hg2 p0 p1 p2 p3 p4 p5 k1 hbw1 hown1' hs1
  obtain ⟨m, hm⟩ : ∃ m, l ++ [mo, d, h', mi, s'] = m := ⟨_, rfl⟩
  rw [hm] at hown2 HL7
  have HM := Lib.hid hm
  clear hm
  go_wp2
  go_loopw [3] (fun v wr => ∃ k A3 c3, k ≤ 9 ∧ v = .slice A3 (7 + k) c3 ∧ OwnB wr w.heap.size A3 (7 + k) c3 (m ++ List.replicate k 0) ∧ Below w.heap.size w wr) (fun v _ => 16 - (lenOf v))
  case atStart => exact ⟨0, A2, c2, by omega, rfl, by simpa using hown2, hb2⟩
  case round =>
    obtain ⟨k, A3, c3, hk, rfl, hown, hbr⟩ := hrel
    have hsr := hbr.size
    by_cases hlt : k < 9
    · have he : Hid (7 + k + 1 = 7 + (k + 1)) := by show _ = _; omega
      have hz := zeros_snoc k
      have HZ := Lib.hid hz
      have hlen := hown.len
      clear hz
      go_wp2_with (at_builtin; refine wpList_app _ _ rfl rfl rfl w.heap.size A3 (7 + k) c3 _ rfl (hown.alloc _) (wr.heap.size + 1) (some ⟨wr.heap.size, 0, none⟩) 1 [0] rfl (bs_new _ _ _ _ _ rfl) (by rw [hlen]; simp; omega) (by simp; omega) ?_)
      intro A4 c4 w4 hown4 hg4
      have hbr4 := (hbr.alloc hsr _).grown hg4 (by simp; omega) (fun g hg => (hown.blk_lt hg).1)
      have hown5 : OwnB w4 w.heap.size A4 (7 + (k + 1)) c4 (m ++ List.replicate (k + 1) 0) := by rw [HZ.out, ← he.out]; exact hown4
      clear hg4 hown hown4 HZ hlen
      go_wp2
      go_roundw
      case rel => exact ⟨k + 1, A4, c4, by omega, by rw [← he.out], hown5, hbr4⟩
      case measure => first | (simp [lenOf]; done) | (simp [lenOf]; omega)
    · obtain rfl : k = 9 := by omega
      go_wp2
      go_ret
      exact ⟨A3, _, c3, rfl, by rw [HM.out]; exact hown, hbr⟩
end Go.Proofs.YthmmipcfabijdaaDoor
