/-
  sha: the document's arithmetic of words.
-/
import Derived.Test.YtmbkbehccmadfaaShL
import Derived.Deep.QuietTactic
import Derived.BigQuiet
import Derived.BigRegion
namespace Go.Proofs.Ytmbkbehccmadfaa
open Go.RowKit Go
set_option linter.unusedVariables false
set_option linter.unusedSimpArgs false
set_option maxRecDepth 100000
theorem u32_row : RowT 53 32 1 4 (.int .u32 0) := ⟨Try.underlying53, by kernel_rfl, rfl, by decide⟩
abbrev OwnU (w : World) (base : Nat) (A : Option Addr) (n c : Nat) (l : List Nat) : Prop := OwnR w base 32 1 A n c (l.map v32)
theorem OwnU.cellAt {w : World} {base g n c : Nat} {l : List Nat} (h : OwnU w base (some ⟨g, 0, none⟩) n c l) (j x : Nat) (hx : l[j]? = some x) : w.cell? ⟨g, j, none⟩ = some (.int .u32 (x : Int)) := by
  obtain ⟨b, off, e, _, hc⟩ := h.reads.at_ (j := j) (u := v32 x) (by rw [List.getElem?_map, hx]; rfl)
  injection e with e
  injection e with e1 e2
  subst e1; subst e2
  rwa [Nat.zero_add] at hc
theorem OwnU.store {w : World} {base g n c : Nat} {l : List Nat} (h : OwnU w base (some ⟨g, 0, none⟩) n c l) (j x : Nat) : OwnU (w.setCell ⟨g, j, none⟩ (.int .u32 (x : Int))) base (some ⟨g, 0, none⟩) n c (l.set j x) := by
  have := h.stored j (v32 x)
  unfold OwnU
  rwa [← List.map_set] at this
theorem OwnU.len {w : World} {base n c : Nat} {A : Option Addr} {l : List Nat} (h : OwnU w base A n c l) : l.length = n := by
  have := OwnR.len h
  simpa using this
theorem read_at {w : World} {A : Option Addr} {l : List Nat} (h : ReadR w A (l.map v32)) (j x : Nat) (hx : l[j]? = some x) : ∃ b off, A = some ⟨b, off, none⟩ ∧ b < w.heap.size ∧ w.cell? ⟨b, off + j, none⟩ = some (.int .u32 (x : Int)) :=
  h.at_ (j := j) (u := v32 x) (by rw [List.getElem?_map, hx]; rfl)
theorem made_u32 (n : Nat) : (madeCells (Value.int .u32 0).cells (n * 1)).toList = (List.replicate n 0).map v32 := by
  rw [Nat.mul_one, show (Value.int .u32 0).cells = #[.int .u32 0] from rfl, toList_madeCells_one, List.map_replicate]
  rfl
theorem rt_2 (x : Nat) (hx : x < 4294967296) (w : World) :
    Calls Try.prog 33 #[.int .u32 x, .int .u64 2] w fun e w' => e = .returned (.int .u32 (rotr x 2 : Nat)) ∧ w' = w := by
  have hr : bits .or .u32 ((x : Int) / 4) ((x : Int) * 1073741824 % 4294967296) = ((rotr x 2 : Nat) : Int) := by
    have e1 : (x : Int) * 1073741824 % 4294967296 = ((x * 2 ^ (32 - 2) % 4294967296 : Nat) : Int) := by omega
    have e2 : (x : Int) / 4 = ((x / 2 ^ 2 : Nat) : Int) := by omega
    rw [e1, e2, u32_or_nat _ _ (by omega) (Nat.mod_lt _ (by decide)), Nat.or_comm]
    rfl
  go_enter Try.func33, Try.ntmps33
  go_wp2
  go_ret
  exact ⟨rfl, rfl⟩
theorem rt_6 (x : Nat) (hx : x < 4294967296) (w : World) :
    Calls Try.prog 33 #[.int .u32 x, .int .u64 6] w fun e w' => e = .returned (.int .u32 (rotr x 6 : Nat)) ∧ w' = w := by
  have hr : bits .or .u32 ((x : Int) / 64) ((x : Int) * 67108864 % 4294967296) = ((rotr x 6 : Nat) : Int) := by
    have e1 : (x : Int) * 67108864 % 4294967296 = ((x * 2 ^ (32 - 6) % 4294967296 : Nat) : Int) := by omega
    have e2 : (x : Int) / 64 = ((x / 2 ^ 6 : Nat) : Int) := by omega
    rw [e1, e2, u32_or_nat _ _ (by omega) (Nat.mod_lt _ (by decide)), Nat.or_comm]
    rfl
  go_enter Try.func33, Try.ntmps33
  go_wp2
  go_ret
  exact ⟨rfl, rfl⟩
theorem rt_7 (x : Nat) (hx : x < 4294967296) (w : World) :
    Calls Try.prog 33 #[.int .u32 x, .int .u64 7] w fun e w' => e = .returned (.int .u32 (rotr x 7 : Nat)) ∧ w' = w := by
  have hr : bits .or .u32 ((x : Int) / 128) ((x : Int) * 33554432 % 4294967296) = ((rotr x 7 : Nat) : Int) := by
    have e1 : (x : Int) * 33554432 % 4294967296 = ((x * 2 ^ (32 - 7) % 4294967296 : Nat) : Int) := by omega
    have e2 : (x : Int) / 128 = ((x / 2 ^ 7 : Nat) : Int) := by omega
    rw [e1, e2, u32_or_nat _ _ (by omega) (Nat.mod_lt _ (by decide)), Nat.or_comm]
    rfl
  go_enter Try.func33, Try.ntmps33
  go_wp2
  go_ret
  exact ⟨rfl, rfl⟩
theorem rt_11 (x : Nat) (hx : x < 4294967296) (w : World) :
    Calls Try.prog 33 #[.int .u32 x, .int .u64 11] w fun e w' => e = .returned (.int .u32 (rotr x 11 : Nat)) ∧ w' = w := by
  have hr : bits .or .u32 ((x : Int) / 2048) ((x : Int) * 2097152 % 4294967296) = ((rotr x 11 : Nat) : Int) := by
    have e1 : (x : Int) * 2097152 % 4294967296 = ((x * 2 ^ (32 - 11) % 4294967296 : Nat) : Int) := by omega
    have e2 : (x : Int) / 2048 = ((x / 2 ^ 11 : Nat) : Int) := by omega
    rw [e1, e2, u32_or_nat _ _ (by omega) (Nat.mod_lt _ (by decide)), Nat.or_comm]
    rfl
  go_enter Try.func33, Try.ntmps33
  go_wp2
  go_ret
  exact ⟨rfl, rfl⟩
theorem rt_13 (x : Nat) (hx : x < 4294967296) (w : World) :
    Calls Try.prog 33 #[.int .u32 x, .int .u64 13] w fun e w' => e = .returned (.int .u32 (rotr x 13 : Nat)) ∧ w' = w := by
  have hr : bits .or .u32 ((x : Int) / 8192) ((x : Int) * 524288 % 4294967296) = ((rotr x 13 : Nat) : Int) := by
    have e1 : (x : Int) * 524288 % 4294967296 = ((x * 2 ^ (32 - 13) % 4294967296 : Nat) : Int) := by omega
    have e2 : (x : Int) / 8192 = ((x / 2 ^ 13 : Nat) : Int) := by omega
    rw [e1, e2, u32_or_nat _ _ (by omega) (Nat.mod_lt _ (by decide)), Nat.or_comm]
    rfl
  go_enter Try.func33, Try.ntmps33
  go_wp2
  go_ret
  exact ⟨rfl, rfl⟩
theorem rt_17 (x : Nat) (hx : x < 4294967296) (w : World) :
    Calls Try.prog 33 #[.int .u32 x, .int .u64 17] w fun e w' => e = .returned (.int .u32 (rotr x 17 : Nat)) ∧ w' = w := by
  have hr : bits .or .u32 ((x : Int) / 131072) ((x : Int) * 32768 % 4294967296) = ((rotr x 17 : Nat) : Int) := by
    have e1 : (x : Int) * 32768 % 4294967296 = ((x * 2 ^ (32 - 17) % 4294967296 : Nat) : Int) := by omega
    have e2 : (x : Int) / 131072 = ((x / 2 ^ 17 : Nat) : Int) := by omega
    rw [e1, e2, u32_or_nat _ _ (by omega) (Nat.mod_lt _ (by decide)), Nat.or_comm]
    rfl
  go_enter Try.func33, Try.ntmps33
  go_wp2
  go_ret
  exact ⟨rfl, rfl⟩
theorem rt_18 (x : Nat) (hx : x < 4294967296) (w : World) :
    Calls Try.prog 33 #[.int .u32 x, .int .u64 18] w fun e w' => e = .returned (.int .u32 (rotr x 18 : Nat)) ∧ w' = w := by
  have hr : bits .or .u32 ((x : Int) / 262144) ((x : Int) * 16384 % 4294967296) = ((rotr x 18 : Nat) : Int) := by
    have e1 : (x : Int) * 16384 % 4294967296 = ((x * 2 ^ (32 - 18) % 4294967296 : Nat) : Int) := by omega
    have e2 : (x : Int) / 262144 = ((x / 2 ^ 18 : Nat) : Int) := by omega
    rw [e1, e2, u32_or_nat _ _ (by omega) (Nat.mod_lt _ (by decide)), Nat.or_comm]
    rfl
  go_enter Try.func33, Try.ntmps33
  go_wp2
  go_ret
  exact ⟨rfl, rfl⟩
theorem rt_19 (x : Nat) (hx : x < 4294967296) (w : World) :
    Calls Try.prog 33 #[.int .u32 x, .int .u64 19] w fun e w' => e = .returned (.int .u32 (rotr x 19 : Nat)) ∧ w' = w := by
  have hr : bits .or .u32 ((x : Int) / 524288) ((x : Int) * 8192 % 4294967296) = ((rotr x 19 : Nat) : Int) := by
    have e1 : (x : Int) * 8192 % 4294967296 = ((x * 2 ^ (32 - 19) % 4294967296 : Nat) : Int) := by omega
    have e2 : (x : Int) / 524288 = ((x / 2 ^ 19 : Nat) : Int) := by omega
    rw [e1, e2, u32_or_nat _ _ (by omega) (Nat.mod_lt _ (by decide)), Nat.or_comm]
    rfl
  go_enter Try.func33, Try.ntmps33
  go_wp2
  go_ret
  exact ⟨rfl, rfl⟩
theorem rt_22 (x : Nat) (hx : x < 4294967296) (w : World) :
    Calls Try.prog 33 #[.int .u32 x, .int .u64 22] w fun e w' => e = .returned (.int .u32 (rotr x 22 : Nat)) ∧ w' = w := by
  have hr : bits .or .u32 ((x : Int) / 4194304) ((x : Int) * 1024 % 4294967296) = ((rotr x 22 : Nat) : Int) := by
    have e1 : (x : Int) * 1024 % 4294967296 = ((x * 2 ^ (32 - 22) % 4294967296 : Nat) : Int) := by omega
    have e2 : (x : Int) / 4194304 = ((x / 2 ^ 22 : Nat) : Int) := by omega
    rw [e1, e2, u32_or_nat _ _ (by omega) (Nat.mod_lt _ (by decide)), Nat.or_comm]
    rfl
  go_enter Try.func33, Try.ntmps33
  go_wp2
  go_ret
  exact ⟨rfl, rfl⟩
theorem rt_25 (x : Nat) (hx : x < 4294967296) (w : World) :
    Calls Try.prog 33 #[.int .u32 x, .int .u64 25] w fun e w' => e = .returned (.int .u32 (rotr x 25 : Nat)) ∧ w' = w := by
  have hr : bits .or .u32 ((x : Int) / 33554432) ((x : Int) * 128 % 4294967296) = ((rotr x 25 : Nat) : Int) := by
    have e1 : (x : Int) * 128 % 4294967296 = ((x * 2 ^ (32 - 25) % 4294967296 : Nat) : Int) := by omega
    have e2 : (x : Int) / 33554432 = ((x / 2 ^ 25 : Nat) : Int) := by omega
    rw [e1, e2, u32_or_nat _ _ (by omega) (Nat.mod_lt _ (by decide)), Nat.or_comm]
    rfl
  go_enter Try.func33, Try.ntmps33
  go_wp2
  go_ret
  exact ⟨rfl, rfl⟩
end Go.Proofs.Ytmbkbehccmadfaa
