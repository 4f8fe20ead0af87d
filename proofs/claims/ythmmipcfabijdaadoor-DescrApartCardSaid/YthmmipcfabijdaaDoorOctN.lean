/-
  octet: Narrow.
-/
import Derived.Test.YthmmipcfabijdaaDoorOctW
namespace Go.Proofs.YthmmipcfabijdaaDoor
open Go.RowKit Go
set_option linter.unusedVariables false
/-- The text whose letters, wide, the bytes are. -/
def narrowS : List UInt8 → Option (List UInt8)
  | [] => some []
  | [_] => none
  | p :: z :: r => if letter p && z == 0 then (narrowS r).map (p :: ·) else none
theorem narrow_cons (p z : UInt8) (r : List UInt8) : narrowS (p :: z :: r) = if letter p && z == 0 then (narrowS r).map (p :: ·) else none := by rw [narrowS]
theorem narrow_odd : ∀ (m : Nat) (bs : List UInt8), bs.length = 2 * m + 1 → narrowS bs = none
  | 0, [_], _ => rfl
  | m + 1, p :: z :: r, h => by
    unfold narrowS
    rw [narrow_odd m r (by simp at h; omega)]
    split <;> rfl
theorem narrow_widen (bs : List UInt8) (h : bs.all letter = true) : narrowS (widen bs) = some bs := by
  induction bs with
  | nil => rfl
  | cons p r ih =>
    simp only [List.all_cons, Bool.and_eq_true] at h
    show narrowS (p :: 0 :: widen r) = _
    unfold narrowS
    rw [if_pos (by simp [h.1]), ih h.2]; rfl
theorem narrow_some : ∀ (bs l : List UInt8), narrowS bs = some l → bs = widen l ∧ l.all letter = true
  | [], l, h => by
    unfold narrowS at h
    injection h with h
    subst h
    exact ⟨rfl, rfl⟩
  | [_], l, h => by
    unfold narrowS at h
    cases h
  | p :: z :: r, l, h => by
    unfold narrowS at h
    split at h
    · rename_i hc
      simp only [Bool.and_eq_true, beq_iff_eq] at hc
      cases hr : narrowS r with
      | none => rw [hr] at h; cases h
      | some t =>
        rw [hr] at h
        injection h with h
        obtain ⟨h1, h2⟩ := narrow_some r t hr
        subst h
        rw [hc.2, h1]
        exact ⟨rfl, by simp [hc.1, h2]⟩
    · cases h
/-- What Narrow answers. -/
def NarrowPost (w : World) (bs : List UInt8) (e : Ending) (w' : World) : Prop :=
  (match narrowS bs with
    | some l => e = .returned (.tuple #[.string (strOf l), .int .i64 0])
    | none => e = .returned (.tuple #[.string ByteArray.empty, .int .i64 9])) ∧ Below w.heap.size w w'
theorem narrow_yes {w w' : World} {bs l : List UInt8} (h : narrowS bs = some l) (hb : Below w.heap.size w w') : NarrowPost w bs (.returned (.tuple #[.string (strOf l), .int .i64 0])) w' := by
  unfold NarrowPost; rw [h]; exact ⟨rfl, hb⟩
theorem narrow_no {w w' : World} {bs : List UInt8} (h : narrowS bs = none) (hb : Below w.heap.size w w') : NarrowPost w bs (.returned (.tuple #[.string ByteArray.empty, .int .i64 9])) w' := by
  unfold NarrowPost; rw [h]; exact ⟨rfl, hb⟩
end Go.Proofs.YthmmipcfabijdaaDoor
