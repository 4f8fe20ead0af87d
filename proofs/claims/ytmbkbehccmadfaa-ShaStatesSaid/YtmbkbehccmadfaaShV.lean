/-
  sha: sums are compared; no state.
-/
import Derived.Test.YtmbkbehccmadfaaShU
import Derived.ChangeKeysEq
namespace Go.Proofs.Ytmbkbehccmadfaa
open Go.RowKit Go
set_option linter.unusedVariables false
set_option linter.unusedSimpArgs false
set_option maxRecDepth 100000
theorem dig_same (l : List Nat) (h : l.length = 32) (w : World) : (Op.equalIn 10000 25 (.agg (l.map v8).toArray) (.agg (l.map v8).toArray)).run Try.prog w = .ok true w := by
  obtain ⟨i, hi⟩ : ∃ i, Try.prog.info? 5 = some i := by
    obtain ⟨i, hi, _⟩ := info_parts u8_info
    exact ⟨i, hi⟩
  rw [run_equalIn_array w 9999 _ _ Try.underlying25 hi]
  have c6 : Try.prog.cellsOf 5 = 1 := by kernel_rfl
  rw [c6]
  have key : ∀ is : List Nat, (∀ j ∈ is, j < 32) → (Op.eqItems 9999 5 1 (l.map v8).toArray (l.map v8).toArray is).run Try.prog w = .ok true w := by
    intro is
    induction is with
    | nil => intro _; simp [Op.eqItems]
    | cons j is ih =>
      intro hj
      have hj32 : j < 32 := hj j (by simp)
      have hi2 := ih (fun q hq => hj q (by simp [hq]))
      obtain ⟨p, hp⟩ : ∃ p, l[j]? = some p := ⟨l[j], List.getElem?_eq_getElem (by omega)⟩
      have e1 : (l.map v8).toArray[j * 1]? = some (v8 p) := by simp [hp]
      have r1 := run_part_plain (P := Try.prog) w (e := 5) (by kernel_rfl) e1
      have q1 : (Op.equalIn 9999 5 (v8 p) (v8 p)).run Try.prog w = .ok true w := by
        simp [go_sem, Try.underlying5]
      unfold Op.eqItems
      simp only [Sem.run_bind, r1, Result.andThen_ok, q1]
      simpa using hi2
  exact key _ (fun j hj => by simpa using hj)
theorem wnil_any (A : Option Addr) (n c : Nat) (w : World) : Calls Try.prog 20 #[.pointer none, .slice A n c] w fun e w' => e = .returned (.tuple #[]) ∧ w' = w := by
  go_enter Try.func20, Try.ntmps20
  go_wp2
  refine bodyPost_ret (results_none rfl _ _ _) rfl ?_
  exact ⟨rfl, rfl⟩
def z32 : List Nat := List.replicate 32 0
theorem zero_32 (w : World) : (zeroValue 25).run Try.prog w = .ok (.agg (z32.map v8).toArray) w := by kernel_rfl
theorem snil_any (w : World) : Calls Try.prog 18 #[.pointer none] w fun e w' => e = .returned (.agg (z32.map v8).toArray) ∧ Below w.heap.size w w' := by
  have hone : (z32.map v8).toArray.all (·.oneCell') = true := all8 _
  have hif : (Try.prog.info? 25).map (·.size) = some (z32.map v8).toArray.size := size_32
  have HC := Lib.hid (show _ ∧ _ from ⟨hone, hif⟩)
  clear hone hif
  go_enter Try.func18, Try.ntmps18
  go_wp2_with (refine wpList_store_row rfl _ _ _ rfl w.heap.size (z32.map v8).toArray rfl rfl _ _ (has_new w _) HC.out.2 rfl HC.out.1 ?_)
  refine bodyPost_ret (results_cell_row rfl _ _ w.heap.size _ _ _ _ rfl (setRow_heap _ _ _ _ _ _ (has_new w _)) Try.underlying25 rfl HC.out.2) rfl ?_
  exact ⟨rfl, below_setRow (kp_alloc (Below.refl _ _) _) (Nat.le_refl _) _⟩
def Z32 : Array Value := #[.int .u8 0, .int .u8 0, .int .u8 0, .int .u8 0, .int .u8 0, .int .u8 0, .int .u8 0, .int .u8 0, .int .u8 0, .int .u8 0, .int .u8 0, .int .u8 0, .int .u8 0, .int .u8 0, .int .u8 0, .int .u8 0, .int .u8 0, .int .u8 0, .int .u8 0, .int .u8 0, .int .u8 0, .int .u8 0, .int .u8 0, .int .u8 0, .int .u8 0, .int .u8 0, .int .u8 0, .int .u8 0, .int .u8 0, .int .u8 0, .int .u8 0, .int .u8 0]
theorem Z32_same (w : World) : (Op.equalIn 10000 25 (.agg (z32.map v8).toArray) (.agg #[.int .u8 0, .int .u8 0, .int .u8 0, .int .u8 0, .int .u8 0, .int .u8 0, .int .u8 0, .int .u8 0, .int .u8 0, .int .u8 0, .int .u8 0, .int .u8 0, .int .u8 0, .int .u8 0, .int .u8 0, .int .u8 0, .int .u8 0, .int .u8 0, .int .u8 0, .int .u8 0, .int .u8 0, .int .u8 0, .int .u8 0, .int .u8 0, .int .u8 0, .int .u8 0, .int .u8 0, .int .u8 0, .int .u8 0, .int .u8 0, .int .u8 0, .int .u8 0])).run Try.prog w = .ok true w := dig_same z32 rfl w
set_option maxHeartbeats 4000000 in
theorem nil_walk (A : Option Addr) (n c : Nat) (bs : List UInt8) (w : World) (h : IsBs w A n c bs) :
    Calls Try.prog 7 #[.slice A n c] w fun e w' => e = .returned (.bool true) ∧ Below w.heap.size w w' := by
  have WK := Lib.hid (fun W => works_any W)
  have hl := h.lim
  clear h
  by_cases hn : n ≤ 65536
  · have hzs := Z32_same
    have i1 : ¬ (n : Int) > 65536 := by omega
    go_enter Try.func7, Try.ntmps7
    go_wp2_with fail
    refine (wnil_any _ _ _ _).mono ?_
    rintro e w1 ⟨rfl, rfl⟩
    go_wp2_with fail
    refine (snil_any _).mono ?_
    rintro e w2 ⟨rfl, hb2⟩
    obtain ⟨ds, hds⟩ : ∃ ds, (z32.map v8).toArray = ds := ⟨_, rfl⟩
    rw [hds] at hzs ⊢
    have HB2 := Lib.hid hb2
    clear hb2 hds
    go_wp2_with fail
    refine (WK.out _).mono ?_
    rintro e w3 ⟨rfl, hb3⟩
    have HB3 := Lib.hid (kp_call HB2.out hb3)
    clear hb3 HB2
    go_wp2
    go_ret
    exact ⟨rfl, HB3.out⟩
  · have i1 : (n : Int) > 65536 := by omega
    go_enter Try.func7, Try.ntmps7
    go_wp2_with fail
    refine (WK.out _).mono ?_
    rintro e w3 ⟨rfl, hb3⟩
    have HB3 := Lib.hid hb3
    clear hb3
    go_wp2
    go_ret
    exact ⟨rfl, HB3.out⟩
end Go.Proofs.Ytmbkbehccmadfaa
