/-
  measure: the statement on the ranges of the sections.
-/
import Derived.Test.YtcedojmhgmgcgaaDoorMeM
import Derived.Test.YtcedojmhgmgcgaaDoorMp9
import Derived.StillTailTactics
import Derived.Deep.Cut
namespace Go.Proofs.YtcedojmhgmgcgaaDoor
open Go.RowKit Go
set_option linter.unusedVariables false
set_option linter.unusedSimpArgs false
set_option maxRecDepth 100000
attribute [local go_sem] Oper.semAt_some
theorem chain_at : ∀ (R : List (Nat × Nat)) (e i : Nat) (x : Nat × Nat), (chainR R e).1 = true → R[i]? = some x → x.1 = (chainR (R.take i) e).2
  | [], e, i, x, _, h => by simp at h
  | y :: r, e, 0, x, hc, h => by
    simp at h
    subst h
    simp only [chainR, Bool.and_eq_true, decide_eq_true_eq] at hc
    exact hc.1
  | y :: r, e, i + 1, x, hc, h => by
    simp only [chainR, Bool.and_eq_true, decide_eq_true_eq] at hc
    exact chain_at r (y.1 + y.2) i x hc.2 (by simpa using h)
theorem rangesM_at (im : Im) (n : Nat) : (rangesM im n)[0]? = some (0, im.check) ∧ (rangesM im n)[1]? = some (im.check + 4, im.dir) ∧ (rangesM im n)[2]? = some (im.dir + 8, im.hdr) ∧ (∀ (i : Nat) (x : Nat × Nat), (riseL im.secs)[i]? = some x → (rangesM im n)[3 + i]? = some (x.1, x.1 + x.2)) ∧
    ((chainR (riseL im.secs) im.hdr).2 < endM im n → (rangesM im n).length = 4 + im.secs.length ∧ (rangesM im n)[3 + im.secs.length]? = some ((chainR (riseL im.secs) im.hdr).2, endM im n)) ∧ (¬ (chainR (riseL im.secs) im.hdr).2 < endM im n → (rangesM im n).length = 3 + im.secs.length) := by
  have hl := (riseL_perm im.secs).length_eq
  refine ⟨rfl, rfl, rfl, fun i x hx => ?_, fun h => ?_, fun h => ?_⟩
  · unfold rangesM rangesL
    rw [List.append_assoc, List.getElem?_append_right (by simp [headR]), show 3 + i - (headR im).length = i by simp [headR]]
    rw [List.getElem?_append_left (by unfold secR; rw [List.length_map]; exact (List.getElem?_eq_some_iff.1 hx).1)]
    unfold secR
    rw [List.getElem?_map, hx]
    rfl
  · unfold rangesM rangesL tailR
    rw [if_pos h]
    refine ⟨by simp [headR, secR]; omega, ?_⟩
    rw [List.getElem?_append_right (by simp [headR, secR]; omega)]
    rw [show 3 + im.secs.length - (headR im ++ secR (riseL im.secs)).length = 0 by simp [headR, secR]; omega]
    rfl
  · unfold rangesM rangesL tailR
    rw [if_neg h]
    simp [headR, secR]
    omega
/-- Are two ranges one? -/
theorem rng_eq (a b c d : Int) (w : World) : (Op.equalIn 10000 36 (.agg #[.int .i64 a, .int .i64 b]) (.agg #[.int .i64 c, .int .i64 d])).run Tryd.prog w = .ok ((a == c) && (b == d)) w := by
  obtain ⟨i, hi⟩ : ∃ i, Tryd.prog.info? 3 = some i := by
    have h : (Tryd.prog.info? 3).isSome = true := by kernel_rfl
    exact Option.isSome_iff_exists.1 h
  rw [run_equalIn_array w 9999 _ _ Tryd.underlying36 hi]
  have c6 : Tryd.prog.cellsOf 3 = 1 := by kernel_rfl
  rw [c6]
  have r1 := run_part_plain (P := Tryd.prog) w (e := 3) (by kernel_rfl) (show (#[Value.int .i64 a, .int .i64 b] : Array Value)[0 * 1]? = some (.int .i64 a) from rfl)
  have r2 := run_part_plain (P := Tryd.prog) w (e := 3) (by kernel_rfl) (show (#[Value.int .i64 a, .int .i64 b] : Array Value)[1 * 1]? = some (.int .i64 b) from rfl)
  have r3 := run_part_plain (P := Tryd.prog) w (e := 3) (by kernel_rfl) (show (#[Value.int .i64 c, .int .i64 d] : Array Value)[0 * 1]? = some (.int .i64 c) from rfl)
  have r4 := run_part_plain (P := Tryd.prog) w (e := 3) (by kernel_rfl) (show (#[Value.int .i64 c, .int .i64 d] : Array Value)[1 * 1]? = some (.int .i64 d) from rfl)
  have q1 : (Op.equalIn 9999 3 (.int .i64 a) (.int .i64 c)).run Tryd.prog w = .ok (a == c) w := by simp [go_sem, Tryd.underlying3]
  have q2 : (Op.equalIn 9999 3 (.int .i64 b) (.int .i64 d)).run Tryd.prog w = .ok (b == d) w := by simp [go_sem, Tryd.underlying3]
  show (Op.eqItems 9999 3 1 _ _ [0, 1]).run Tryd.prog w = _
  unfold Op.eqItems
  simp only [Sem.run_bind, r1, r3, Result.andThen_ok, q1]
  cases hac : (a == c) with
  | false => rfl
  | true =>
    show (Op.eqItems 9999 3 1 _ _ [1]).run Tryd.prog w = _
    unfold Op.eqItems
    simp only [Sem.run_bind, r2, r4, Result.andThen_ok, q2]
    cases (b == d) <;> simp [Op.eqItems]
end Go.Proofs.YtcedojmhgmgcgaaDoor
