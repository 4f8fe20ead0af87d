/-
  der: Join.
-/
import Derived.Test.YtamkbedbkjndgaaRef
import Derived.Test.YtamkbedbkjndgaaDrP
namespace Go.Proofs.Ytamkbedbkjndgaa
open Go.RowKit Go
set_option linter.unusedVariables false
set_option maxRecDepth 100000
/-- A list of slices of bytes in memory: row r is the slice X r, and reads as bss r. -/
def Parts (w : World) (A : Option Addr) (n : Nat) (X : Nat → Option Addr × Nat × Nat) (bss : Nat → List UInt8) : Prop :=
  0 < n → ∃ b off, A = some ⟨b, off, none⟩ ∧ b < w.heap.size ∧ ∀ r, r < n → w.cell? ⟨b, off + r, none⟩ = some (.slice (X r).1 (X r).2.1 (X r).2.2) ∧ RB w (X r).1 (X r).2.1 (bss r)
theorem Parts.below {w w' : World} {A : Option Addr} {n : Nat} {X : Nat → Option Addr × Nat × Nat} {bss : Nat → List UInt8} (h : Parts w A n X bss) {B : Nat} (hb : Below B w w') (hB : w.heap.size ≤ B) : Parts w' A n X bss := fun hn => by
  obtain ⟨b, off, rfl, hlt, hr⟩ := h hn
  exact ⟨b, off, rfl, Nat.lt_of_lt_of_le hlt hb.size, fun r hrn => ⟨(hb.cell (p := ⟨b, off + r, none⟩) (show b < B by omega)).trans (hr r hrn).1, (hr r hrn).2.below' hb hB⟩⟩
/-- The first k of them, one behind the other. -/
def joinN (bss : Nat → List UInt8) : Nat → List UInt8
  | 0 => []
  | k + 1 => joinN bss k ++ bss k
theorem joinN_succ (bss : Nat → List UInt8) (k : Nat) : joinN bss (k + 1) = joinN bss k ++ bss k := rfl
theorem joinN_mono (bss : Nat → List UInt8) (i : Nat) : ∀ j, i ≤ j → (joinN bss i).length ≤ (joinN bss j).length
  | 0, h => by obtain rfl : i = 0 := by omega
               exact Nat.le_refl _
  | j + 1, h => by
    rcases Nat.lt_or_ge j i with h1 | h1
    · obtain rfl : i = j + 1 := by omega
      exact Nat.le_refl _
    · have := joinN_mono bss i j h1
      rw [joinN_succ, List.length_append]; omega
theorem join_any (A : Option Addr) (m c : Nat) (X : Nat → Option Addr × Nat × Nat) (bss : Nat → List UInt8) (w : World) (hP : Parts w A m X bss) (hm : m ≤ 1000000) (hlen : (joinN bss m).length ≤ 140737488355328) :
    Calls Try.prog 25 #[.slice A m c] w (Fresh w (joinN bss m)) := by
  have HL := Lib.hid (fun i (h : i ≤ m) => joinN_mono bss i m h)
  have HP := Lib.hid hP
  clear hP
  go_enter Try.func25, Try.ntmps25
  go_wp2
  go_loop [3, 11] (fun x i => ∃ j : Nat, j ≤ m ∧ i = .int .i64 j ∧ x = .int .i64 ((joinN bss j).length : Nat)) (fun _ i => m - (intOf i).toNat)
  case atStart => exact ⟨0, Nat.zero_le _, rfl, rfl⟩
  case round =>
    obtain ⟨j, hj, rfl, rfl⟩ := hrel
    by_cases hlt : j < m
    · obtain ⟨b, off, rfl, hblt, hr⟩ := HP.out (by omega)
      obtain ⟨hcell, hR⟩ := hr j hlt
      have hsum : (joinN bss (j + 1)).length = (joinN bss j).length + (X j).2.1 := by rw [joinN_succ, List.length_append, hR.1]
      have hle := HL.out (j + 1) (by omega)
      have HS := Lib.hid hsum
      clear hr hR
      rw [hsum] at hle
      clear hsum
      go_wp2
      go_round
      case rel => exact ⟨j + 1, by omega, by go_num, by rw [HS.out]; go_num⟩
      case measure => simp [intOf]; omega
    · obtain rfl : j = m := by omega
      go_wp2_with (refine wpList_mk0 _ _ rfl rfl _ _ _ (joinN bss j).length rfl rfl (by omega) (by omega) ?_)
      intro w1 hown1 hg1
      have hb1 : Below w.heap.size w w1 := (Below.refl _ _).grown hg1 (Nat.le_refl _) (by intro g hg; cases hg)
      go_wp2
      go_loopw [6, 24] (fun v i wl => ∃ (k : Nat) (A2 : Option Addr) (n2 c2 : Nat), k ≤ j ∧ i = .int .i64 k ∧ v = .slice A2 n2 c2 ∧ OwnB wl w.heap.size A2 n2 c2 (joinN bss k) ∧ Below w.heap.size w wl) (fun _ i _ => j - (intOf i).toNat)
      case atStart => exact ⟨0, _, _, _, Nat.zero_le _, rfl, rfl, hown1, hb1⟩
      case round =>
        obtain ⟨k, A2, n2, c2, hk, rfl, rfl, hown, hbl⟩ := hrel
        clear hown1 hb1 hg1
        by_cases hlt2 : k < j
        · obtain ⟨b, off, rfl, hblt, hr⟩ := (Parts.below HP.out hbl (Nat.le_refl _)) (by omega)
          obtain ⟨hcell, hR⟩ := hr k hlt2
          have hle := HL.out (k + 1) (by omega)
          rw [joinN_succ, List.length_append, hR.1, hown.len] at hle
          have hsz := hbl.size
          clear hr
          go_wp2_with (at_builtin; refine wpList_apn _ _ rfl rfl rfl w.heap.size A2 n2 c2 _ rfl hown (X k).1 (X k).2.1 (X k).2.2 (bss k) rfl hR (by omega) (by omega) ?_)
          intro A3 c3 w3 hown3 hg3
          go_wp2
          go_roundw
          case rel => exact ⟨k + 1, A3, _, c3, by omega, by go_num, rfl, hown3, hbl.grown hg3 (by omega) (fun g hg => (hown.blk_lt hg).1)⟩
          case measure => simp [intOf]; omega
        · obtain rfl : k = j := by omega
          go_wp2
          go_ret
          exact ⟨A2, n2, c2, rfl, hown, hbl⟩
end Go.Proofs.Ytamkbedbkjndgaa
