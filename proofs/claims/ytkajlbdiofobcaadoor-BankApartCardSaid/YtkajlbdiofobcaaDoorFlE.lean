/-
  flash: the statements' own Same and works; no flash.
-/
import Derived.Test.YtkajlbdiofobcaaDoorFlD
import Derived.WalkSpells
import Derived.Outline
import Derived.WalkLawsBesides
namespace Go.Proofs.YtkajlbdiofobcaaDoor
open Go.RowKit Go
set_option linter.unusedVariables false
set_option linter.unusedSimpArgs false
set_option maxRecDepth 100000
theorem rb_block {w : World} {g : Nat} {cs : Array Value} {t : TypeId} {fr : Nat × Nat} {bs : List UInt8} {n : Nat} (hk : w.heap[g]? = some (.cells cs t fr)) (h : cs.toList = bs.map bv) (hn : bs.length = n) : RB w (some ⟨g, 0, none⟩) n bs := by
  refine ⟨hn, fun hne => ⟨g, 0, rfl, block_lt hk, fun k hk2 => ?_⟩⟩
  have h9 := Lib.cell_of_heap hk (0 + k)
  rw [h9]
  have h8 : cs[0 + k]? = some (bv bs[k]) := by
    rw [← Array.getElem?_toList, h, List.getElem?_map, Nat.zero_add, List.getElem?_eq_getElem hk2]
    rfl
  rw [h8]
set_option maxHeartbeats 4000000 in
theorem same7_any (A B : Option Addr) (n c m d : Nat) (x y : List UInt8) (w : World) (hA : RB w A n x) (hB : RB w B m y) (hn : n ≤ 1000000000) (hm : m ≤ 1000000000) :
    Calls Tryd.prog 28 #[.slice A n c, .slice B m d] w fun e w' => e = .returned (.bool (decide (x = y))) ∧ Below w.heap.size w w' := by
  have HA := Lib.hid hA
  have HB := Lib.hid hB
  by_cases hnm : n = m
  · subst hnm
    clear hA hB
    go_enter Tryd.func28, Tryd.ntmps28
    go_wp2_with fail
    go_loopw [5] (fun vi wl => ∃ i : Nat, vi = .int .i64 (i : Int) ∧ i ≤ n ∧ Hid (x.take i = y.take i ∧ Below w.heap.size w wl)) (fun vi _ => n - (intOf vi).toNat)
    case atStart => exact ⟨0, rfl, Nat.zero_le _, rfl, Below.refl _ _⟩
    case round =>
      obtain ⟨i, rfl, hi, HK⟩ := hrel
      by_cases hlt : i < n
      · have i1 : (i : Int) < (n : Int) := by omega
        have i2 : 0 ≤ (i : Int) := by omega
        have e3 : IntKind.i64.wrap ((i : Int) + 1) = (i : Int) + 1 := IntWalk.i64_in _ (by omega)
        obtain ⟨ba, oa, p, rfl, hba, hx, cA⟩ := HA.out.at_ hlt
        obtain ⟨bb, ob, q, rfl, hbb, hy, cB⟩ := HB.out.at_ hlt
        have cA' := (HK.out.2.cell (p := ⟨ba, oa + i, none⟩) hba).trans cA
        have cB' := (HK.out.2.cell (p := ⟨bb, ob + i, none⟩) hbb).trans cB
        clear cA cB hba hbb
        by_cases hxy : p = q
        · subst hxy
          have HN : Hid (x.take (i + 1) = y.take (i + 1) ∧ Below w.heap.size w wr) := by
            refine ⟨?_, HK.out.2⟩
            rw [List.take_add_one, List.take_add_one, HK.out.1, hx, hy]
          have t1 : ((p.toNat : Int) != (p.toNat : Int)) = false := by simp
          clear hx hy HK
          go_wp2_with fail
          go_quiet (fail)
          go_wp2
          go_roundw
          case rel => exact ⟨i + 1, by go_num, by omega, HN.out.1, kp_drewN HN.out.2 _⟩
          case measure => simp [intOf]; omega
        · have hpq : p.toNat ≠ q.toNat := fun h => hxy (UInt8.toNat_inj.1 h)
          have t1 : ((p.toNat : Int) != (q.toNat : Int)) = true := by simp; omega
          have HN : Hid (x ≠ y ∧ Below w.heap.size w wr) := by
            refine ⟨?_, HK.out.2⟩
            rintro rfl
            rw [hx] at hy
            injection hy with hy
            exact hxy hy
          clear hx hy HK
          go_wp2_with fail
          go_quiet (fail)
          go_wp2
          go_ret
          exact ⟨by rw [decide_eq_false HN.out.1]; rfl, kp_drewN HN.out.2 _⟩
      · have i1 : ¬ (i : Int) < (n : Int) := by omega
        have HN : Hid (x = y ∧ Below w.heap.size w wr) := by
          refine ⟨?_, HK.out.2⟩
          have h := HK.out.1
          rw [List.take_of_length_le (by rw [HA.out.1]; omega), List.take_of_length_le (by rw [HB.out.1]; omega)] at h
          exact h
        clear HK
        go_wp2
        go_ret
        exact ⟨by rw [decide_eq_true HN.out.1]; rfl, HN.out.2⟩
  · have i1 : ((n : Int) != (m : Int)) = true := by simp; omega
    have hne : x ≠ y := by
      rintro rfl
      exact hnm (hA.1.symm.trans hB.1)
    have i2 : ¬ n = m := hnm
    rw [decide_eq_false hne]
    clear hA hB HA HB hne
    go_enter Tryd.func28, Tryd.ntmps28
    go_wp2
    go_ret
    exact ⟨rfl, Below.refl _ _⟩
/-- The statements' anchor. -/
def wS1 : FS := (progQ [15, 240] 3 (newS 2 16)).1
def wS2 : FS := (progQ [248] 3 wS1).1
theorem w_f1 : (progQ [15, 240] 3 (newS 2 16)).2 = 0 ∧ (progQ [248] 3 wS1).2 = 0 ∧ wS1.off = false ∧ wS1.n = 2 ∧ wS1.s = 16 ∧ wS1.wr = 2 ∧ wS2.off = false ∧ wS2.n = 2 ∧ wS2.s = 16 ∧ wS2.wr = 3 ∧ (wS2.bs.drop 3).take 2 = [8, 240] := by
  refine ⟨?_, ?_, ?_, ?_, ?_, ?_, ?_, ?_, ?_, ?_, ?_⟩ <;> kernel_rfl
end Go.Proofs.YtkajlbdiofobcaaDoor
