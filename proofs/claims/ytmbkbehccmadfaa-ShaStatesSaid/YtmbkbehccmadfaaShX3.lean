/-
  sha: the document's comparison of numbers of limbs.
-/
import Derived.Test.YtmbkbehccmadfaaShX2
namespace Go.Proofs.Ytmbkbehccmadfaa
open Go.RowKit Go
set_option linter.unusedVariables false
set_option linter.unusedSimpArgs false
set_option maxRecDepth 100000
/-- Above, from limb i down. -/
def abvQ (xs ys : List Nat) : Nat → Bool
  | 0 => false
  | i + 1 => if xs.getD i 0 = ys.getD i 0 then abvQ xs ys i else decide (ys.getD i 0 < xs.getD i 0)
set_option maxHeartbeats 4000000 in
theorem above_any (A B : Option Addr) (n ca cb : Nat) (xs ys : List Nat) (w : World) (hA : ReadR w A (xs.map v32)) (hB : ReadR w B (ys.map v32)) (ha : xs.length = n) (hb : ys.length = n) (hn : n ≤ 1000) (hal : ∀ x ∈ xs, x < 4294967296) (hbl : ∀ x ∈ ys, x < 4294967296) :
    Calls Try.prog 40 #[.slice A n ca, .slice B n cb] w fun e w' => e = .returned (.bool (abvQ xs ys n)) ∧ Below w.heap.size w w' := by
  have HAL := Lib.hid hal
  have HBL := Lib.hid hbl
  have HA := Lib.hid hA
  have HB := Lib.hid hB
  have HLA := Lib.hid ha
  have HLB := Lib.hid hb
  clear hal hbl hA hB ha hb
  have e1 : IntKind.i64.wrap ((n : Int) - 1) = (n : Int) - 1 := IntWalk.i64_in _ (by omega)
  go_enter Try.func40, Try.ntmps40
  go_wp2_with fail
  go_loopw [5] (fun vi wl => ∃ i : Nat, vi = .int .i64 ((i : Int) - 1) ∧ i ≤ n ∧ Hid (abvQ xs ys n = abvQ xs ys i ∧ Below w.heap.size w wl)) (fun vi _ => (intOf vi + 1).toNat)
  case atStart => exact ⟨n, rfl, Nat.le_refl _, rfl, Below.refl _ _⟩
  case round =>
    obtain ⟨i, rfl, hi, HK⟩ := hrel
    by_cases h0 : i = 0
    · subst h0
      have i1 : ¬ ((0 : Nat) : Int) - 1 ≥ 0 := by omega
      go_wp2
      go_ret
      exact ⟨by rw [HK.out.1]; rfl, HK.out.2⟩
    · obtain ⟨j, rfl⟩ : ∃ j, i = j + 1 := ⟨i - 1, by omega⟩
      have e2 : (((j + 1 : Nat) : Int) - 1) = (j : Int) := by omega
      obtain ⟨x, hx, hxd⟩ := at_of (l := xs) (j := j) (by rw [HLA.out]; omega)
      obtain ⟨y, hy, hyd⟩ := at_of (l := ys) (j := j) (by rw [HLB.out]; omega)
      obtain ⟨ba, oa, rfl, hba, cA⟩ := read_at HA.out j x hx
      obtain ⟨bb, ob, rfl, hbb, cB⟩ := read_at HB.out j y hy
      have cA' := (HK.out.2.cell (p := ⟨ba, oa + j, none⟩) hba).trans cA
      have cB' := (HK.out.2.cell (p := ⟨bb, ob + j, none⟩) hbb).trans cB
      have HQ : Hid (abvQ xs ys (j + 1) = if x = y then abvQ xs ys j else decide (y < x)) := by unfold Hid; simp only [abvQ]; rw [hxd, hyd]
      have e3 : IntKind.i64.wrap ((j : Int) - 1) = (j : Int) - 1 := IntWalk.i64_in _ (by omega)
      have i1 : (j : Int) ≥ 0 := by omega
      have i2 : 0 ≤ (j : Int) := by omega
      have i3 : (j : Int) < (n : Int) := by omega
      rw [e2]
      clear cA cB hx hy hxd hyd hba hbb e2
      by_cases hxy : x = y
      · subst hxy
        have HN : Hid (abvQ xs ys n = abvQ xs ys j ∧ Below w.heap.size w wr) := ⟨by rw [HK.out.1, HQ.out, if_pos rfl], HK.out.2⟩
        have t1 : ((x : Int) != (x : Int)) = false := by simp
        go_wp2_with fail
        go_quiet (fail)
        go_wp2
        go_roundw
        case rel => exact ⟨j, rfl, by omega, HN.out.1, kp_drewN HN.out.2 _⟩
        case measure => simp [intOf]
      · have t1 : ((x : Int) != (y : Int)) = true := by simp; omega
        have HN : Hid (abvQ xs ys n = decide (y < x) ∧ Below w.heap.size w wr) := ⟨by rw [HK.out.1, HQ.out, if_neg hxy], HK.out.2⟩
        go_wp2_with fail
        go_quiet (fail)
        rename_i nq
        have cA2 : (wr.drewN nq).cell? ⟨ba, oa + j, none⟩ = some (.int .u32 (x : Int)) := cA'
        have cB2 : (wr.drewN nq).cell? ⟨bb, ob + j, none⟩ = some (.int .u32 (y : Int)) := cB'
        have HB2 : Hid (Below w.heap.size w (wr.drewN nq)) := kp_drewN HN.out.2 nq
        generalize wr.drewN nq = wq at *
        clear cA' cB'
        go_wp2_with fail
        go_quiet (fail)
        rename_i nq2
        go_wp2
        go_ret
        exact ⟨by rw [HN.out.1]; rfl, kp_drewN HB2.out _⟩
end Go.Proofs.Ytmbkbehccmadfaa
