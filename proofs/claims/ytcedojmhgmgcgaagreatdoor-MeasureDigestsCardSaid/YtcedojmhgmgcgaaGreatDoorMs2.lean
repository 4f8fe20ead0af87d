/-
  sha: the document's arithmetic of words.
-/
import Derived.Test.YtcedojmhgmgcgaaGreatDoorMs1
import Derived.Deep.QuietTactic
import Derived.BigQuiet
import Derived.BigRegion
import Derived.Test.YtcedojmhgmgcgaaGreatDoorMs1
import Derived.Test.YtcedojmhgmgcgaaGreatDoorOwn
import Derived.Maps.AppendAt
import Derived.Test.YtcedojmhgmgcgaaGreatDoorRef
import Derived.Deep.AppendLies
import Derived.Deep.RegionHeldLaw
import Derived.Deep.RegionHeld3
namespace Go.Proofs.YtcedojmhgmgcgaaGreatDoor
open Go.RowKit Go
set_option linter.unusedVariables false
set_option linter.unusedSimpArgs false
set_option maxRecDepth 100000
theorem u32_row : RowT 101 26 1 4 (.int .u32 0) := ⟨Tryz.underlying101, by kernel_rfl, rfl, by decide⟩
abbrev OwnU (w : World) (base : Nat) (A : Option Addr) (n c : Nat) (l : List Nat) : Prop := OwnR w base 26 1 A n c (l.map v32)
theorem OwnU.cellAt {w : World} {base g n c : Nat} {l : List Nat} (h : OwnU w base (some ⟨g, 0, none⟩) n c l) (j x : Nat) (hx : l[j]? = some x) : w.cell? ⟨g, j, none⟩ = some (.int .u32 (x : Int)) := by
  obtain ⟨b, off, e, _, hc⟩ := h.reads.at_ (j := j) (u := v32 x) (by rw [List.getElem?_map, hx]; rfl)
  injection e with e
  injection e with e1 e2
  subst e1; subst e2
  rwa [Nat.zero_add] at hc
theorem OwnU.store {w : World} {base g n c : Nat} {l : List Nat} (h : OwnU w base (some ⟨g, 0, none⟩) n c l) (j x : Nat) : OwnU (w.setCell ⟨g, j, none⟩ (.int .u32 (x : Int))) base (some ⟨g, 0, none⟩) n c (l.set j x) := by
  have := h.stored j (v32 x)
  unfold OwnU
  rwa [← List.map_set] at this
theorem OwnU.len {w : World} {base n c : Nat} {A : Option Addr} {l : List Nat} (h : OwnU w base A n c l) : l.length = n := by
  have := OwnR.len h
  simpa using this
theorem read_at {w : World} {A : Option Addr} {l : List Nat} (h : ReadR w A (l.map v32)) (j x : Nat) (hx : l[j]? = some x) : ∃ b off, A = some ⟨b, off, none⟩ ∧ b < w.heap.size ∧ w.cell? ⟨b, off + j, none⟩ = some (.int .u32 (x : Int)) :=
  h.at_ (j := j) (u := v32 x) (by rw [List.getElem?_map, hx]; rfl)
theorem made_u32 (n : Nat) : (madeCells (Value.int .u32 0).cells (n * 1)).toList = (List.replicate n 0).map v32 := by
  rw [Nat.mul_one, show (Value.int .u32 0).cells = #[.int .u32 0] from rfl, toList_madeCells_one, List.map_replicate]
  rfl
theorem rt_2 (x : Nat) (hx : x < 4294967296) (w : World) :
    Calls Tryz.prog 71 #[.int .u32 x, .int .u64 2] w fun e w' => e = .returned (.int .u32 (rotr x 2 : Nat)) ∧ w' = w := by
  have hr : bits .or .u32 ((x : Int) / 4) ((x : Int) * 1073741824 % 4294967296) = ((rotr x 2 : Nat) : Int) := by
    have e1 : (x : Int) * 1073741824 % 4294967296 = ((x * 2 ^ (32 - 2) % 4294967296 : Nat) : Int) := by omega
    have e2 : (x : Int) / 4 = ((x / 2 ^ 2 : Nat) : Int) := by omega
    rw [e1, e2, u32_or_nat _ _ (by omega) (Nat.mod_lt _ (by decide)), Nat.or_comm]
    rfl
  go_enter Tryz.func71, Tryz.ntmps71
  go_wp2
  go_ret
  exact ⟨rfl, rfl⟩
theorem rt_6 (x : Nat) (hx : x < 4294967296) (w : World) :
    Calls Tryz.prog 71 #[.int .u32 x, .int .u64 6] w fun e w' => e = .returned (.int .u32 (rotr x 6 : Nat)) ∧ w' = w := by
  have hr : bits .or .u32 ((x : Int) / 64) ((x : Int) * 67108864 % 4294967296) = ((rotr x 6 : Nat) : Int) := by
    have e1 : (x : Int) * 67108864 % 4294967296 = ((x * 2 ^ (32 - 6) % 4294967296 : Nat) : Int) := by omega
    have e2 : (x : Int) / 64 = ((x / 2 ^ 6 : Nat) : Int) := by omega
    rw [e1, e2, u32_or_nat _ _ (by omega) (Nat.mod_lt _ (by decide)), Nat.or_comm]
    rfl
  go_enter Tryz.func71, Tryz.ntmps71
  go_wp2
  go_ret
  exact ⟨rfl, rfl⟩
theorem rt_7 (x : Nat) (hx : x < 4294967296) (w : World) :
    Calls Tryz.prog 71 #[.int .u32 x, .int .u64 7] w fun e w' => e = .returned (.int .u32 (rotr x 7 : Nat)) ∧ w' = w := by
  have hr : bits .or .u32 ((x : Int) / 128) ((x : Int) * 33554432 % 4294967296) = ((rotr x 7 : Nat) : Int) := by
    have e1 : (x : Int) * 33554432 % 4294967296 = ((x * 2 ^ (32 - 7) % 4294967296 : Nat) : Int) := by omega
    have e2 : (x : Int) / 128 = ((x / 2 ^ 7 : Nat) : Int) := by omega
    rw [e1, e2, u32_or_nat _ _ (by omega) (Nat.mod_lt _ (by decide)), Nat.or_comm]
    rfl
  go_enter Tryz.func71, Tryz.ntmps71
  go_wp2
  go_ret
  exact ⟨rfl, rfl⟩
theorem rt_11 (x : Nat) (hx : x < 4294967296) (w : World) :
    Calls Tryz.prog 71 #[.int .u32 x, .int .u64 11] w fun e w' => e = .returned (.int .u32 (rotr x 11 : Nat)) ∧ w' = w := by
  have hr : bits .or .u32 ((x : Int) / 2048) ((x : Int) * 2097152 % 4294967296) = ((rotr x 11 : Nat) : Int) := by
    have e1 : (x : Int) * 2097152 % 4294967296 = ((x * 2 ^ (32 - 11) % 4294967296 : Nat) : Int) := by omega
    have e2 : (x : Int) / 2048 = ((x / 2 ^ 11 : Nat) : Int) := by omega
    rw [e1, e2, u32_or_nat _ _ (by omega) (Nat.mod_lt _ (by decide)), Nat.or_comm]
    rfl
  go_enter Tryz.func71, Tryz.ntmps71
  go_wp2
  go_ret
  exact ⟨rfl, rfl⟩
theorem rt_13 (x : Nat) (hx : x < 4294967296) (w : World) :
    Calls Tryz.prog 71 #[.int .u32 x, .int .u64 13] w fun e w' => e = .returned (.int .u32 (rotr x 13 : Nat)) ∧ w' = w := by
  have hr : bits .or .u32 ((x : Int) / 8192) ((x : Int) * 524288 % 4294967296) = ((rotr x 13 : Nat) : Int) := by
    have e1 : (x : Int) * 524288 % 4294967296 = ((x * 2 ^ (32 - 13) % 4294967296 : Nat) : Int) := by omega
    have e2 : (x : Int) / 8192 = ((x / 2 ^ 13 : Nat) : Int) := by omega
    rw [e1, e2, u32_or_nat _ _ (by omega) (Nat.mod_lt _ (by decide)), Nat.or_comm]
    rfl
  go_enter Tryz.func71, Tryz.ntmps71
  go_wp2
  go_ret
  exact ⟨rfl, rfl⟩
theorem rt_17 (x : Nat) (hx : x < 4294967296) (w : World) :
    Calls Tryz.prog 71 #[.int .u32 x, .int .u64 17] w fun e w' => e = .returned (.int .u32 (rotr x 17 : Nat)) ∧ w' = w := by
  have hr : bits .or .u32 ((x : Int) / 131072) ((x : Int) * 32768 % 4294967296) = ((rotr x 17 : Nat) : Int) := by
    have e1 : (x : Int) * 32768 % 4294967296 = ((x * 2 ^ (32 - 17) % 4294967296 : Nat) : Int) := by omega
    have e2 : (x : Int) / 131072 = ((x / 2 ^ 17 : Nat) : Int) := by omega
    rw [e1, e2, u32_or_nat _ _ (by omega) (Nat.mod_lt _ (by decide)), Nat.or_comm]
    rfl
  go_enter Tryz.func71, Tryz.ntmps71
  go_wp2
  go_ret
  exact ⟨rfl, rfl⟩
theorem rt_18 (x : Nat) (hx : x < 4294967296) (w : World) :
    Calls Tryz.prog 71 #[.int .u32 x, .int .u64 18] w fun e w' => e = .returned (.int .u32 (rotr x 18 : Nat)) ∧ w' = w := by
  have hr : bits .or .u32 ((x : Int) / 262144) ((x : Int) * 16384 % 4294967296) = ((rotr x 18 : Nat) : Int) := by
    have e1 : (x : Int) * 16384 % 4294967296 = ((x * 2 ^ (32 - 18) % 4294967296 : Nat) : Int) := by omega
    have e2 : (x : Int) / 262144 = ((x / 2 ^ 18 : Nat) : Int) := by omega
    rw [e1, e2, u32_or_nat _ _ (by omega) (Nat.mod_lt _ (by decide)), Nat.or_comm]
    rfl
  go_enter Tryz.func71, Tryz.ntmps71
  go_wp2
  go_ret
  exact ⟨rfl, rfl⟩
theorem rt_19 (x : Nat) (hx : x < 4294967296) (w : World) :
    Calls Tryz.prog 71 #[.int .u32 x, .int .u64 19] w fun e w' => e = .returned (.int .u32 (rotr x 19 : Nat)) ∧ w' = w := by
  have hr : bits .or .u32 ((x : Int) / 524288) ((x : Int) * 8192 % 4294967296) = ((rotr x 19 : Nat) : Int) := by
    have e1 : (x : Int) * 8192 % 4294967296 = ((x * 2 ^ (32 - 19) % 4294967296 : Nat) : Int) := by omega
    have e2 : (x : Int) / 524288 = ((x / 2 ^ 19 : Nat) : Int) := by omega
    rw [e1, e2, u32_or_nat _ _ (by omega) (Nat.mod_lt _ (by decide)), Nat.or_comm]
    rfl
  go_enter Tryz.func71, Tryz.ntmps71
  go_wp2
  go_ret
  exact ⟨rfl, rfl⟩
theorem rt_22 (x : Nat) (hx : x < 4294967296) (w : World) :
    Calls Tryz.prog 71 #[.int .u32 x, .int .u64 22] w fun e w' => e = .returned (.int .u32 (rotr x 22 : Nat)) ∧ w' = w := by
  have hr : bits .or .u32 ((x : Int) / 4194304) ((x : Int) * 1024 % 4294967296) = ((rotr x 22 : Nat) : Int) := by
    have e1 : (x : Int) * 1024 % 4294967296 = ((x * 2 ^ (32 - 22) % 4294967296 : Nat) : Int) := by omega
    have e2 : (x : Int) / 4194304 = ((x / 2 ^ 22 : Nat) : Int) := by omega
    rw [e1, e2, u32_or_nat _ _ (by omega) (Nat.mod_lt _ (by decide)), Nat.or_comm]
    rfl
  go_enter Tryz.func71, Tryz.ntmps71
  go_wp2
  go_ret
  exact ⟨rfl, rfl⟩
theorem rt_25 (x : Nat) (hx : x < 4294967296) (w : World) :
    Calls Tryz.prog 71 #[.int .u32 x, .int .u64 25] w fun e w' => e = .returned (.int .u32 (rotr x 25 : Nat)) ∧ w' = w := by
  have hr : bits .or .u32 ((x : Int) / 33554432) ((x : Int) * 128 % 4294967296) = ((rotr x 25 : Nat) : Int) := by
    have e1 : (x : Int) * 128 % 4294967296 = ((x * 2 ^ (32 - 25) % 4294967296 : Nat) : Int) := by omega
    have e2 : (x : Int) / 33554432 = ((x / 2 ^ 25 : Nat) : Int) := by omega
    rw [e1, e2, u32_or_nat _ _ (by omega) (Nat.mod_lt _ (by decide)), Nat.or_comm]
    rfl
  go_enter Tryz.func71, Tryz.ntmps71
  go_wp2
  go_ret
  exact ⟨rfl, rfl⟩
end Go.Proofs.YtcedojmhgmgcgaaGreatDoor
namespace Go.Proofs.YtcedojmhgmgcgaaGreatDoor
open Go.RowKit Go
set_option linter.unusedVariables false
set_option linter.unusedSimpArgs false
set_option maxRecDepth 100000
/-- One limb times many, put into what is there. -/
def tIn (a : Nat) (ys : List Nat) (i : Nat) : Nat → List Nat → List Nat × Nat
  | 0, out => (out, 0)
  | k + 1, out =>
    let p := tIn a ys i k out
    let x := (a * ys.getD k 0 + p.1.getD (i + k) 0 + p.2) % 18446744073709551616
    (p.1.set (i + k) (x % 4294967296), x / 4294967296)
def tOut (xs ys : List Nat) : Nat → List Nat
  | 0 => List.replicate (xs.length + ys.length) 0
  | i + 1 =>
    let p := tIn (xs.getD i 0) ys i ys.length (tOut xs ys i)
    p.1.set (i + ys.length) (p.2 % 4294967296)
def timesQ (xs ys : List Nat) : List Nat := tOut xs ys xs.length
theorem set_lt {l : List Nat} {j y : Nat} (h : ∀ x ∈ l, x < 4294967296) (hy : y < 4294967296) : ∀ x ∈ l.set j y, x < 4294967296 := by
  intro x hx
  rcases List.mem_or_eq_of_mem_set hx with h1 | h1
  · exact h x h1
  · rw [h1]; exact hy
theorem tIn_ok (a : Nat) (ys : List Nat) (i : Nat) : ∀ (k : Nat) (out : List Nat), (∀ x ∈ out, x < 4294967296) → (tIn a ys i k out).1.length = out.length ∧ (∀ x ∈ (tIn a ys i k out).1, x < 4294967296) ∧ (tIn a ys i k out).2 < 4294967296
  | 0, out, h => ⟨rfl, h, by show 0 < 4294967296; decide⟩
  | k + 1, out, h => by
    obtain ⟨h1, h2, h3⟩ := tIn_ok a ys i k out h
    refine ⟨by simp only [tIn, List.length_set]; exact h1, set_lt h2 (Nat.mod_lt _ (by decide)), ?_⟩
    simp only [tIn]
    omega
theorem tOut_ok (xs ys : List Nat) : ∀ i, (tOut xs ys i).length = xs.length + ys.length ∧ (∀ x ∈ tOut xs ys i, x < 4294967296)
  | 0 => ⟨by simp [tOut], fun x hx => by rw [(List.mem_replicate.1 hx).2]; decide⟩
  | i + 1 => by
    obtain ⟨h1, h2⟩ := tOut_ok xs ys i
    obtain ⟨h3, h4, h5⟩ := tIn_ok (xs.getD i 0) ys i ys.length (tOut xs ys i) h2
    refine ⟨by simp only [tOut, List.length_set]; rw [h3, h1], set_lt h4 (Nat.mod_lt _ (by decide))⟩
theorem getD_of {l : List Nat} {j x : Nat} (h : l[j]? = some x) : l.getD j 0 = x := by rw [List.getD_eq_getElem?_getD, h]; rfl
theorem at_of {l : List Nat} {j : Nat} (h : j < l.length) : ∃ x, l[j]? = some x ∧ l.getD j 0 = x := ⟨l[j], List.getElem?_eq_getElem h, getD_of (List.getElem?_eq_getElem h)⟩
set_option maxHeartbeats 8000000 in
theorem times_any (A B : Option Addr) (la ca lb cb : Nat) (xs ys : List Nat) (w : World) (hA : ReadR w A (xs.map v32)) (hB : ReadR w B (ys.map v32)) (ha : xs.length = la) (hb : ys.length = lb) (hal : ∀ x ∈ xs, x < 4294967296) (hbl : ∀ x ∈ ys, x < 4294967296) (hl : la ≤ 1000) (hl2 : lb ≤ 1000) (hp : 0 < la) :
    Calls Tryz.prog 88 #[.slice A la ca, .slice B lb cb] w fun e w' => e = .returned (.slice (some ⟨w.heap.size, 0, none⟩) (la + lb) (la + lb)) ∧ OwnU w' w.heap.size (some ⟨w.heap.size, 0, none⟩) (la + lb) (la + lb) (timesQ xs ys) ∧ Below w.heap.size w w' := by
  have HAL := Lib.hid hal
  have HBL := Lib.hid hbl
  have HA := Lib.hid hA
  have HB := Lib.hid hB
  have HLA := Lib.hid ha
  have HLB := Lib.hid hb
  clear hal hbl hA hB ha hb
  obtain ⟨G, hG⟩ : ∃ G, w.heap.size = G := ⟨_, rfl⟩
  have HG := Lib.hid hG
  have e1 : IntKind.i64.wrap ((la : Int) + (lb : Int)) = (la : Int) + (lb : Int) := IntWalk.i64_in _ (by omega)
  go_enter Tryz.func88, Tryz.ntmps88
  go_wp2_with (refine wpList_mkR u32_row _ _ rfl rfl _ _ _ _ (la + lb) rfl rfl (by omega) (by omega) (by unfold maxLen; omega) (by omega) ?_)
  intro w1 hown1 hg1
  rw [toList_madeCells_one] at hown1
  have hown2 : OwnU w1 G (some ⟨G, 0, none⟩) (la + lb) (la + lb) (List.replicate (la + lb) 0) := by
    unfold OwnU
    rw [List.map_replicate]
    exact hown1
  have H1 : Hid (OwnU w1 G (some ⟨G, 0, none⟩) (la + lb) (la + lb) (tOut xs ys 0) ∧ Below G w w1) := by
    rw [← hG]
    refine ⟨?_, (Below.refl _ _).grown hg1 (Nat.le_refl _) (by intro g hg; cases hg)⟩
    unfold tOut
    rw [HLA.out, HLB.out, hG]
    exact hown2
  clear hown1 hown2 hg1
  clear e1
  go_wp2_with fail
  go_loopw [6] (fun vi wl => ∃ i : Nat, vi = .int .i64 (i : Int) ∧ i ≤ la ∧ Hid (OwnU wl G (some ⟨G, 0, none⟩) (la + lb) (la + lb) (tOut xs ys i) ∧ Below G w wl)) (fun vi _ => la - (intOf vi).toNat)
  case atStart => exact ⟨0, rfl, Nat.zero_le _, H1.out⟩
  case round =>
    obtain ⟨i, rfl, hi, HK⟩ := hrel
    clear H1
    by_cases hlt : i < la
    · obtain ⟨x, hx, hxd⟩ := at_of (l := xs) (j := i) (by rw [HLA.out]; exact hlt)
      have hx32 : x < 4294967296 := HAL.out x (List.mem_of_getElem? hx)
      obtain ⟨ba, oa, rfl, hba, cA⟩ := read_at HA.out i x hx
      have HCA : Hid (∀ W, Below G w W → W.cell? ⟨ba, oa + i, none⟩ = some (.int .u32 (x : Int))) := fun W h => (h.cell (p := ⟨ba, oa + i, none⟩) (by rw [← HG.out]; exact hba)).trans cA
      have HX := Lib.hid hxd
      have i1 : (i : Int) < (la : Int) := by omega
      have e6 : IntKind.i64.wrap ((i : Int) + 1) = (i : Int) + 1 := IntWalk.i64_in _ (by omega)
      clear hx hxd cA hba
      have H2 : Hid (OwnU wr G (some ⟨G, 0, none⟩) (la + lb) (la + lb) (tIn x ys i 0 (tOut xs ys i)).1 ∧ Below G w wr) := HK.out
      clear HK
      go_wp2_with fail
      go_loopw [7, 8] (fun vc vk wl => ∃ k c : Nat, vc = .int .u64 (c : Int) ∧ vk = .int .i64 (k : Int) ∧ k ≤ lb ∧ c < 4294967296 ∧ Hid (c = (tIn x ys i k (tOut xs ys i)).2 ∧ OwnU wl G (some ⟨G, 0, none⟩) (la + lb) (la + lb) (tIn x ys i k (tOut xs ys i)).1 ∧ Below G w wl)) (fun _ vk _ => lb - (intOf vk).toNat)
      case atStart => exact ⟨0, 0, rfl, rfl, Nat.zero_le _, by decide, rfl, H2.out⟩
      case round =>
        obtain ⟨k, c, rfl, rfl, hk, hc, HJ⟩ := hrel
        clear H2
        obtain ⟨t1, t2, t3⟩ := tIn_ok x ys i k (tOut xs ys i) (tOut_ok xs ys i).2
        have t4 := (tOut_ok xs ys i).1
        rw [HLA.out, HLB.out] at t4
        by_cases hkl : k < lb
        · obtain ⟨y, hy, hyd⟩ := at_of (l := ys) (j := k) (by rw [HLB.out]; exact hkl)
          have hy32 : y < 4294967296 := HBL.out y (List.mem_of_getElem? hy)
          obtain ⟨bb, ob, rfl, hbb, cB⟩ := read_at HB.out k y hy
          obtain ⟨z, hz, hzd⟩ := at_of (l := (tIn x ys i k (tOut xs ys i)).1) (j := i + k) (by rw [t1, t4]; omega)
          have hz32 : z < 4294967296 := t2 z (List.mem_of_getElem? hz)
          obtain ⟨q1, q2, q3⟩ := HJ.out
          obtain ⟨m, hm⟩ : ∃ m, i + k = m := ⟨_, rfl⟩
          rw [hm] at hz hzd
          have cO := q2.cellAt m z hz
          have fO := OwnR.free q2 m
          have cA := HCA.out _ q3
          have cB' := (q3.cell (p := ⟨bb, ob + k, none⟩) (by rw [← HG.out]; exact hbb)).trans cB
          obtain ⟨s, hs⟩ : ∃ s, (x * y + z + c) % 18446744073709551616 = s := ⟨_, rfl⟩
          have hp1 : x * y < 18446744073709551616 := Nat.lt_of_lt_of_le (Nat.mul_lt_mul'' hx32 hy32) (by decide)
          obtain ⟨P, hP⟩ : ∃ P, x * y = P := ⟨_, rfl⟩
          rw [hP] at hs hp1
          have f1 : IntKind.u64.wrap (x : Int) = (x : Int) := by rw [IntKind.wrap_u64]; omega
          have f2 : IntKind.u64.wrap (y : Int) = (y : Int) := by rw [IntKind.wrap_u64]; omega
          have f3 : IntKind.u64.wrap (z : Int) = (z : Int) := by rw [IntKind.wrap_u64]; omega
          have f0 : (x : Int) * (y : Int) = (P : Int) := by rw [← hP]; simp
          have f4 : IntKind.u64.wrap ((x : Int) * (y : Int)) = (P : Int) := by rw [f0, IntKind.wrap_u64]; omega
          have f5 : IntKind.u64.wrap ((P : Int) + (z : Int)) = (((P + z) % 18446744073709551616 : Nat) : Int) := by rw [IntKind.wrap_u64]; omega
          obtain ⟨M, hM⟩ : ∃ M, (P + z) % 18446744073709551616 = M := ⟨_, rfl⟩
          rw [hM] at f5
          have f6 : IntKind.u64.wrap ((M : Int) + (c : Int)) = (s : Int) := by rw [IntKind.wrap_u64]; omega
          have f7 : IntKind.u32.wrap (s : Int) = ((s % 4294967296 : Nat) : Int) := by rw [IntKind.wrap_u32]; omega
          have f8 : (s : Int) / 4294967296 = ((s / 4294967296 : Nat) : Int) := by omega
          obtain ⟨d, hd⟩ : ∃ d, s / 4294967296 = d := ⟨_, rfl⟩
          obtain ⟨l, hl⟩ : ∃ l, s % 4294967296 = l := ⟨_, rfl⟩
          rw [hl] at f7
          rw [hd] at f8
          have e2 : IntKind.i64.wrap ((i : Int) + (k : Int)) = (m : Int) := by rw [IntWalk.i64_in _ (by omega)]; omega
          have e3 : (i : Int) + (k : Int) = (m : Int) := by omega
          have e5 : IntKind.i64.wrap ((k : Int) + 1) = (k : Int) + 1 := IntWalk.i64_in _ (by omega)
          have HN : Hid (d = (tIn x ys i (k + 1) (tOut xs ys i)).2 ∧ OwnU (wr.drew.setCell ⟨G, m, none⟩ (.int .u32 (l : Int))) G (some ⟨G, 0, none⟩) (la + lb) (la + lb) (tIn x ys i (k + 1) (tOut xs ys i)).1 ∧ Below G w (wr.drew.setCell ⟨G, m, none⟩ (.int .u32 (l : Int)))) := by
            have hxx : (x * ys.getD k 0 + (tIn x ys i k (tOut xs ys i)).1.getD (i + k) 0 + (tIn x ys i k (tOut xs ys i)).2) % 18446744073709551616 = s := by rw [hyd, hm, hzd, ← q1, hP]; exact hs
            refine ⟨?_, ?_, q3.drew.setCell (Nat.le_refl _) _⟩
            · simp only [tIn]; rw [hxx, hd]
            · simp only [tIn]; rw [hxx, hl, hm]; exact OwnU.store (w := wr.drew) q2 m l
          have hd32 : d < 4294967296 := by omega
          have i2 : (k : Int) < (lb : Int) := by omega
          have i3 : (m : Int) < (la : Int) + (lb : Int) := by omega
          have i4 : 0 ≤ (m : Int) := by omega
          have hM1 := Lib.hid hM
          have hM2 := Lib.hid hs
          have HM := Lib.hid hm
          clear hM hs hP hd hl hm q1 q2 q3 HJ cB hz hzd hy hyd hbb t1 t2 t3 t4
          go_wp2_with fail
          go_region
          all_goals
            go_wp2
            go_roundw
            case rel => exact ⟨k + 1, d, rfl, by go_num, by omega, hd32, HN.out⟩
            case measure => simp [intOf]; omega
        · obtain rfl : k = lb := by omega
          obtain ⟨q1, q2, q3⟩ := HJ.out
          obtain ⟨m, hm⟩ : ∃ m, i + k = m := ⟨_, rfl⟩
          obtain ⟨z, hz, hzd⟩ := at_of (l := (tIn x ys i k (tOut xs ys i)).1) (j := m) (by rw [t1, t4]; omega)
          have cO := q2.cellAt m z hz
          have fO := OwnR.free q2 m
          have e2 : IntKind.i64.wrap ((i : Int) + (k : Int)) = (m : Int) := by rw [IntWalk.i64_in _ (by omega)]; omega
          have e3 : (i : Int) + (k : Int) = (m : Int) := by omega
          have f7 : IntKind.u32.wrap (c : Int) = (c : Int) := by rw [IntKind.wrap_u32]; omega
          have HN : Hid (OwnU (wr.setCell ⟨G, m, none⟩ (.int .u32 (c : Int))) G (some ⟨G, 0, none⟩) (la + k) (la + k) (tOut xs ys (i + 1)) ∧ Below G w (wr.setCell ⟨G, m, none⟩ (.int .u32 (c : Int)))) := by
            refine ⟨?_, q3.setCell (Nat.le_refl _) _⟩
            simp only [tOut]
            rw [HX.out, HLB.out, ← q1, Nat.mod_eq_of_lt hc, hm]
            exact q2.store m c
          have i2 : ¬ (k : Int) < (k : Int) := by omega
          have i3 : (m : Int) < (la : Int) + (k : Int) := by omega
          have i4 : 0 ≤ (m : Int) := by omega
          clear q1 q2 q3 HJ hz hzd t1 t2 t3 t4 hm
          go_wp2
          go_roundw
          case rel => exact ⟨i + 1, by go_num, by omega, HN.out⟩
          case measure => simp [intOf]; omega
    · obtain rfl : i = la := by omega
      have i1 : ¬ (i : Int) < (i : Int) := by omega
      go_wp2
      go_ret
      exact ⟨rfl, by unfold timesQ; rw [HLA.out]; exact HK.out.1, HK.out.2⟩
end Go.Proofs.YtcedojmhgmgcgaaGreatDoor
namespace Go.Proofs.YtcedojmhgmgcgaaGreatDoor
open Go.RowKit Go
set_option linter.unusedVariables false
set_option linter.unusedSimpArgs false
set_option maxRecDepth 100000
/-- Above, from limb i down. -/
def abvQ (xs ys : List Nat) : Nat → Bool
  | 0 => false
  | i + 1 => if xs.getD i 0 = ys.getD i 0 then abvQ xs ys i else decide (ys.getD i 0 < xs.getD i 0)
set_option maxHeartbeats 4000000 in
theorem above_any (A B : Option Addr) (n ca cb : Nat) (xs ys : List Nat) (w : World) (hA : ReadR w A (xs.map v32)) (hB : ReadR w B (ys.map v32)) (ha : xs.length = n) (hb : ys.length = n) (hn : n ≤ 1000) (hal : ∀ x ∈ xs, x < 4294967296) (hbl : ∀ x ∈ ys, x < 4294967296) :
    Calls Tryz.prog 89 #[.slice A n ca, .slice B n cb] w fun e w' => e = .returned (.bool (abvQ xs ys n)) ∧ Below w.heap.size w w' := by
  have HAL := Lib.hid hal
  have HBL := Lib.hid hbl
  have HA := Lib.hid hA
  have HB := Lib.hid hB
  have HLA := Lib.hid ha
  have HLB := Lib.hid hb
  clear hal hbl hA hB ha hb
  have e1 : IntKind.i64.wrap ((n : Int) - 1) = (n : Int) - 1 := IntWalk.i64_in _ (by omega)
  go_enter Tryz.func89, Tryz.ntmps89
  go_wp2_with fail
  go_loopw [5] (fun vi wl => ∃ i : Nat, vi = .int .i64 ((i : Int) - 1) ∧ i ≤ n ∧ Hid (abvQ xs ys n = abvQ xs ys i ∧ Below w.heap.size w wl)) (fun vi _ => (intOf vi + 1).toNat)
  case atStart => exact ⟨n, rfl, Nat.le_refl _, rfl, Below.refl _ _⟩
  case round =>
    obtain ⟨i, rfl, hi, HK⟩ := hrel
    by_cases h0 : i = 0
    · subst h0
      have i1 : ¬ ((0 : Nat) : Int) - 1 ≥ 0 := by omega
      go_wp2
      go_ret
      exact ⟨by rw [HK.out.1]; rfl, HK.out.2⟩
    · obtain ⟨j, rfl⟩ : ∃ j, i = j + 1 := ⟨i - 1, by omega⟩
      have e2 : (((j + 1 : Nat) : Int) - 1) = (j : Int) := by omega
      obtain ⟨x, hx, hxd⟩ := at_of (l := xs) (j := j) (by rw [HLA.out]; omega)
      obtain ⟨y, hy, hyd⟩ := at_of (l := ys) (j := j) (by rw [HLB.out]; omega)
      obtain ⟨ba, oa, rfl, hba, cA⟩ := read_at HA.out j x hx
      obtain ⟨bb, ob, rfl, hbb, cB⟩ := read_at HB.out j y hy
      have cA' := (HK.out.2.cell (p := ⟨ba, oa + j, none⟩) hba).trans cA
      have cB' := (HK.out.2.cell (p := ⟨bb, ob + j, none⟩) hbb).trans cB
      have HQ : Hid (abvQ xs ys (j + 1) = if x = y then abvQ xs ys j else decide (y < x)) := by unfold Hid; simp only [abvQ]; rw [hxd, hyd]
      have e3 : IntKind.i64.wrap ((j : Int) - 1) = (j : Int) - 1 := IntWalk.i64_in _ (by omega)
      have i1 : (j : Int) ≥ 0 := by omega
      have i2 : 0 ≤ (j : Int) := by omega
      have i3 : (j : Int) < (n : Int) := by omega
      rw [e2]
      clear cA cB hx hy hxd hyd hba hbb e2
      by_cases hxy : x = y
      · subst hxy
        have HN : Hid (abvQ xs ys n = abvQ xs ys j ∧ Below w.heap.size w wr) := ⟨by rw [HK.out.1, HQ.out, if_pos rfl], HK.out.2⟩
        have t1 : ((x : Int) != (x : Int)) = false := by simp
        go_wp2_with fail
        go_quiet (fail)
        go_wp2
        go_roundw
        case rel => exact ⟨j, rfl, by omega, HN.out.1, kp_drewN HN.out.2 _⟩
        case measure => simp [intOf]
      · have t1 : ((x : Int) != (y : Int)) = true := by simp; omega
        have HN : Hid (abvQ xs ys n = decide (y < x) ∧ Below w.heap.size w wr) := ⟨by rw [HK.out.1, HQ.out, if_neg hxy], HK.out.2⟩
        go_wp2_with fail
        go_quiet (fail)
        rename_i nq
        have cA2 : (wr.drewN nq).cell? ⟨ba, oa + j, none⟩ = some (.int .u32 (x : Int)) := cA'
        have cB2 : (wr.drewN nq).cell? ⟨bb, ob + j, none⟩ = some (.int .u32 (y : Int)) := cB'
        have HB2 : Hid (Below w.heap.size w (wr.drewN nq)) := kp_drewN HN.out.2 nq
        generalize wr.drewN nq = wq at *
        clear cA' cB'
        go_wp2_with fail
        go_quiet (fail)
        rename_i nq2
        go_wp2
        go_ret
        exact ⟨by rw [HN.out.1]; rfl, kp_drewN HB2.out _⟩
end Go.Proofs.YtcedojmhgmgcgaaGreatDoor
namespace Go.Proofs.YtcedojmhgmgcgaaGreatDoor
open Go.RowKit Go
set_option linter.unusedVariables false
set_option linter.unusedSimpArgs false
set_option maxRecDepth 100000
/-- Bisection. -/
def bisQ (f : Nat → Bool) : Nat → Nat → Nat → Nat
  | 0, lo, _ => lo
  | k + 1, lo, hi => if 1 < hi - lo then (if f ((lo + hi) / 2) then bisQ f k lo ((lo + hi) / 2) else bisQ f k ((lo + hi) / 2) hi) else lo
def limbs (x : Nat) : List Nat := [x % 4294967296, x / 4294967296 % 4294967296]
/-- The power of a number of two limbs. -/
def powQ (l : List Nat) : Nat → List Nat
  | 0 => l
  | i + 1 => timesQ (powQ l i) l
def wantQ (p n : Nat) : List Nat := (List.replicate (2 * n) 0).set n p
def rootF (p n x : Nat) : Bool := abvQ (powQ (limbs x) (n - 1)) (wantQ p n) (2 * n)
def rootQ (p n : Nat) : Nat := bisQ (rootF p n) 37 0 137438953472 % 4294967296
theorem limbs_ok (x : Nat) : (limbs x).length = 2 ∧ ∀ y ∈ limbs x, y < 4294967296 := by
  refine ⟨rfl, fun y hy => ?_⟩
  unfold limbs at hy
  simp only [List.mem_cons, List.not_mem_nil, or_false] at hy
  rcases hy with rfl | rfl
  · exact Nat.mod_lt _ (by decide)
  · exact Nat.mod_lt _ (by decide)
theorem times_ok (xs ys : List Nat) : (timesQ xs ys).length = xs.length + ys.length ∧ ∀ y ∈ timesQ xs ys, y < 4294967296 := tOut_ok xs ys _
theorem pow_ok (x : Nat) : ∀ i, (powQ (limbs x) i).length = 2 * (i + 1) ∧ ∀ y ∈ powQ (limbs x) i, y < 4294967296
  | 0 => limbs_ok x
  | i + 1 => by
    have h := times_ok (powQ (limbs x) i) (limbs x)
    refine ⟨?_, h.2⟩
    show (timesQ _ _).length = _
    rw [h.1, (pow_ok x i).1, (limbs_ok x).1]
    omega
theorem want_ok (p n : Nat) (hp : p < 4294967296) : (wantQ p n).length = 2 * n ∧ ∀ y ∈ wantQ p n, y < 4294967296 := by
  refine ⟨by unfold wantQ; simp, set_lt (fun x hx => by rw [(List.mem_replicate.1 hx).2]; decide) hp⟩
set_option maxHeartbeats 8000000 in
theorem root_any (p n : Nat) (hp : p < 4294967296) (hn : 1 ≤ n) (hn2 : n ≤ 10) (w : World) :
    Calls Tryz.prog 69 #[.int .u32 (p : Int), .int .i64 (n : Int)] w fun e w' => e = .returned (.int .u32 (rootQ p n : Nat)) ∧ Below w.heap.size w w' := by
  obtain ⟨G, hG⟩ : ∃ G, w.heap.size = G := ⟨_, rfl⟩
  have HG := Lib.hid hG
  have e1 : IntKind.i64.wrap (2 * (n : Int)) = 2 * (n : Int) := IntWalk.i64_in _ (by omega)
  obtain ⟨d, hd⟩ : ∃ d, 2 * n = d := ⟨_, rfl⟩
  have e2 : 2 * (n : Int) = (d : Int) := by omega
  go_enter Tryz.func69, Tryz.ntmps69
  go_wp2_with (refine wpList_mkR u32_row _ _ rfl rfl _ _ _ _ d rfl rfl (by omega) (by omega) (by unfold maxLen; omega) (by omega) ?_)
  intro w1 hown1 hg1
  rw [toList_madeCells_one] at hown1
  have hown2 : OwnU w1 G (some ⟨G, 0, none⟩) d d (List.replicate d 0) := by
    unfold OwnU
    rw [List.map_replicate]
    exact hown1
  have cO := hown2.cellAt n 0 (by rw [List.getElem?_replicate, if_pos (by omega)])
  have fO := OwnR.free hown2 n
  have H1 : Hid (OwnU (w1.setCell ⟨G, n, none⟩ (.int .u32 (p : Int))) G (some ⟨G, 0, none⟩) d d (wantQ p n) ∧ Below G w (w1.setCell ⟨G, n, none⟩ (.int .u32 (p : Int)))) := by
    refine ⟨?_, ?_⟩
    · unfold wantQ
      rw [hd]
      exact hown2.store n p
    · have hb : Below G w w1 := (Below.refl G w).grown hg1 (by omega) (by intro g hg; cases hg)
      exact hb.setCell (Nat.le_refl _) _
  have i1 : (n : Int) < (d : Int) := by omega
  clear hown1 hown2 hg1
  go_wp2_with fail
  go_loopw [6, 7] (fun va vb wl => ∃ k lo hi : Nat, va = .int .u64 (lo : Int) ∧ vb = .int .u64 (hi : Int) ∧ lo ≤ hi ∧ hi ≤ 137438953472 ∧ hi - lo ≤ 2 ^ k ∧ Hid (bisQ (rootF p n) 37 0 137438953472 = bisQ (rootF p n) k lo hi ∧ OwnU wl G (some ⟨G, 0, none⟩) d d (wantQ p n) ∧ Below G w wl)) (fun va vb _ => (intOf vb - intOf va).toNat)
  case atStart => exact ⟨37, 0, 137438953472, rfl, rfl, by omega, by omega, by decide, rfl, H1.out⟩
  case round =>
    obtain ⟨k, lo, hi, rfl, rfl, hlh, hh, hk, HK⟩ := hrel
    clear H1 cO fO
    have e3 : IntKind.u64.wrap ((hi : Int) - (lo : Int)) = (hi : Int) - (lo : Int) := by rw [IntKind.wrap_u64]; omega
    by_cases hgt : 1 < hi - lo
    · obtain ⟨k, rfl⟩ : ∃ k', k = k' + 1 := by
        cases k with
        | zero => exact absurd hk (by simp; omega)
        | succ k => exact ⟨k, rfl⟩
      have i2 : (hi : Int) - (lo : Int) > 1 := by omega
      obtain ⟨x, hx⟩ : ∃ x, (lo + hi) / 2 = x := ⟨_, rfl⟩
      have e4 : IntKind.u64.wrap ((lo : Int) + (hi : Int)) = (lo : Int) + (hi : Int) := by rw [IntKind.wrap_u64]; omega
      have e5 : ((lo : Int) + (hi : Int)) / 2 = (x : Int) := by omega
      have e6 : IntKind.u32.wrap (x : Int) = ((x % 4294967296 : Nat) : Int) := by rw [IntKind.wrap_u32]; omega
      obtain ⟨xl, hxl⟩ : ∃ xl, x % 4294967296 = xl := ⟨_, rfl⟩
      obtain ⟨xd, hxd⟩ : ∃ xd, x / 4294967296 = xd := ⟨_, rfl⟩
      have e7 : (x : Int) / 4294967296 = (xd : Int) := by omega
      obtain ⟨xh, hxh⟩ : ∃ xh, xd % 4294967296 = xh := ⟨_, rfl⟩
      have e8 : IntKind.u32.wrap (xd : Int) = (xh : Int) := by rw [IntKind.wrap_u32]; omega
      rw [hxl] at e6
      have HX : Hid (limbs x = [xl, xh]) := by unfold Hid limbs; rw [hxd, hxl, hxh]
      have hp2 : 2 ^ (k + 1) = 2 * 2 ^ k := by rw [Nat.pow_succ, Nat.mul_comm]
      have b1 : x - lo ≤ 2 ^ k := by omega
      have b2 : hi - x ≤ 2 ^ k := by omega
      have b3 : lo ≤ x ∧ x ≤ hi ∧ x < hi ∧ lo < x := by omega
      have HB : Hid (bisQ (rootF p n) (k + 1) lo hi = if rootF p n x then bisQ (rootF p n) k lo x else bisQ (rootF p n) k x hi) := by unfold Hid; rw [bisQ, if_pos hgt, hx]
      have hxl32 : xl < 4294967296 := by omega
      have hxh32 : xh < 4294967296 := by omega
      clear hx hxl hxd hxh hp2 hk e1 e2
      go_wp2_with fail
      rw [e5]
      clear e5 e4
      refine wp_nm fun W2 hW2 => ?_
      obtain ⟨gl, hgl⟩ : ∃ gl, wr.heap.size = gl := ⟨_, rfl⟩
      have hlit : OwnR W2 gl 26 1 (some ⟨gl, 0, none⟩) 2 2 ([xl, xh].map v32) := by rw [← hW2, ← hgl]; exact OwnR.lit wr _ 1 #[v32 xl, v32 xh] 2 (by unfold maxLen; omega) rfl
      have H2 : Hid (∃ ny, ny = 2 * (0 + 1) ∧ ReadR W2 (some ⟨gl, 0, none⟩) ((powQ (limbs x) 0).map v32) ∧ ReadR W2 (some ⟨gl, 0, none⟩) ((limbs x).map v32) ∧ OwnU W2 G (some ⟨G, 0, none⟩) d d (wantQ p n) ∧ Below G w W2) := by
        refine ⟨2, rfl, by show ReadR W2 _ ((limbs x).map v32); rw [HX.out]; exact hlit.reads, by rw [HX.out]; exact hlit.reads, ?_, ?_⟩
        · rw [← hW2]; exact OwnR.alloc HK.out.2.1 _
        · rw [← hW2]; exact HK.out.2.2.alloc (by have := HK.out.2.2.size; omega) _
      clear hW2 hlit
      rw [hgl]
      clear hgl
      go_loopw [10, 11] (fun vy vi wl => ∃ j ny cy : Nat, ∃ Ay : Option Addr, vy = .slice Ay ny cy ∧ vi = .int .i64 ((j : Int) + 1) ∧ j + 1 ≤ n ∧ ny ≤ 20 ∧ Hid (ny = 2 * (j + 1) ∧ ReadR wl Ay ((powQ (limbs x) j).map v32) ∧ ReadR wl (some ⟨gl, 0, none⟩) ((limbs x).map v32) ∧ OwnU wl G (some ⟨G, 0, none⟩) d d (wantQ p n) ∧ Below G w wl)) (fun _ vi _ => n - (intOf vi).toNat)
      case atStart =>
        obtain ⟨ny, rfl, h2⟩ := H2.out
        exact ⟨0, 2, 2, some ⟨gl, 0, none⟩, rfl, rfl, by omega, by omega, rfl, h2⟩
      case round =>
        obtain ⟨j, ny, cy, Ay, rfl, rfl, hj, hny, HJ⟩ := hrel
        clear H2
        obtain ⟨q0, q2, q3, q4, q5⟩ := HJ.out
        by_cases hjn : j + 1 < n
        · have i3 : (j : Int) + 1 < (n : Int) := by omega
          have e9 : IntKind.i64.wrap ((j : Int) + 1 + 1) = (j : Int) + 1 + 1 := IntWalk.i64_in _ (by omega)
          have TA := Lib.hid (times_any Ay (some ⟨gl, 0, none⟩) ny cy 2 2 (powQ (limbs x) j) (limbs x) wr q2 q3 (by rw [(pow_ok x j).1, q0]) (limbs_ok x).1 (pow_ok x j).2 (limbs_ok x).2 (by omega) (by omega) (by omega))
          have hs : G ≤ wr.heap.size := by have := q5.size; omega
          have Q0 := Lib.hid q0
          clear q0
          go_wp2_with fail
          with_reducible refine TA.out.mono ?_
          rintro e w8 ⟨rfl, ho8, hb8⟩
          have HN : Hid (ny + 2 = 2 * (j + 1 + 1) ∧ ReadR w8 (some ⟨wr.heap.size, 0, none⟩) ((powQ (limbs x) (j + 1)).map v32) ∧ ReadR w8 (some ⟨gl, 0, none⟩) ((limbs x).map v32) ∧ OwnU w8 G (some ⟨G, 0, none⟩) d d (wantQ p n) ∧ Below G w w8) :=
            ⟨by have := Q0.out; omega, OwnR.reads ho8, q3.below hb8 (Nat.le_refl _), OwnR.below q4 hb8 (Nat.le_refl _), q5.trans (hb8.mono hs)⟩
          clear q2 q3 q4 q5 ho8 hb8 TA HJ
          go_wp2
          go_roundw
          case rel => exact ⟨j + 1, ny + 2, ny + 2, some ⟨wr.heap.size, 0, none⟩, rfl, by go_num, by omega, by have := Q0.out; omega, HN.out⟩
          case measure => simp [intOf]; omega
        · have i3 : ¬ (j : Int) + 1 < (n : Int) := by omega
          obtain rfl : ny = d := by omega
          have q1 := HK.out.1
          have AB := Lib.hid (above_any Ay (some ⟨G, 0, none⟩) ny cy ny (powQ (limbs x) j) (wantQ p n) wr q2 (OwnR.reads q4) (by rw [(pow_ok x j).1, q0]) (by rw [(want_ok p n hp).1]; omega) (by omega) (pow_ok x j).2 (want_ok p n hp).2)
          obtain ⟨fb, hfb⟩ : ∃ fb, abvQ (powQ (limbs x) j) (wantQ p n) ny = fb := ⟨_, rfl⟩
          have HFB : Hid (rootF p n x = fb) := by unfold Hid rootF; rw [← hfb, ← hd, show n - 1 = j by omega]
          rw [hfb] at AB
          have hs : G ≤ wr.heap.size := by have := q5.size; omega
          clear hfb q0
          go_wp2_with fail
          with_reducible refine AB.out.mono ?_
          rintro e w9 ⟨rfl, hb9⟩
          have q7 := q5.trans (hb9.mono hs)
          have q8 := OwnR.below q4 hb9 (Nat.le_refl _)
          clear q2 q3 q4 q5 hb9 AB HJ
          cases fb with
          | true =>
            have HN : Hid (bisQ (rootF p n) 37 0 137438953472 = bisQ (rootF p n) k lo x ∧ OwnU w9 G (some ⟨G, 0, none⟩) ny ny (wantQ p n) ∧ Below G w w9) := ⟨by rw [q1, HB.out, HFB.out]; rfl, q8, q7⟩
            clear q1 q7 q8
            go_wp2
            go_roundw
            case rel => exact ⟨k, lo, x, rfl, rfl, by omega, by omega, b1, HN.out⟩
            case measure => simp [intOf]; omega
          | false =>
            have HN : Hid (bisQ (rootF p n) 37 0 137438953472 = bisQ (rootF p n) k x hi ∧ OwnU w9 G (some ⟨G, 0, none⟩) ny ny (wantQ p n) ∧ Below G w w9) := ⟨by rw [q1, HB.out, HFB.out]; rfl, q8, q7⟩
            clear q1 q7 q8
            go_wp2
            go_roundw
            case rel => exact ⟨k, x, hi, rfl, rfl, by omega, by omega, b2, HN.out⟩
            case measure => simp [intOf]; omega
    · have i2 : ¬ (hi : Int) - (lo : Int) > 1 := by omega
      have e6 : IntKind.u32.wrap (lo : Int) = ((rootQ p n : Nat) : Int) := by
        have hq : bisQ (rootF p n) k lo hi = lo := by
          cases k with
          | zero => rfl
          | succ k => rw [bisQ, if_neg hgt]
        unfold rootQ
        rw [HK.out.1, hq, IntKind.wrap_u32]
        omega
      go_wp2
      go_ret
      exact ⟨rfl, HK.out.2.2⟩
end Go.Proofs.YtcedojmhgmgcgaaGreatDoor
namespace Go.Proofs.YtcedojmhgmgcgaaGreatDoor
open Go.RowKit Go
set_option linter.unusedVariables false
set_option linter.unusedSimpArgs false
set_option maxRecDepth 100000
def val : List Nat → Nat
  | [] => 0
  | x :: l => x + 4294967296 * val l
theorem val_set : ∀ (l : List Nat) (j y : Nat), j < l.length → val (l.set j y) + l.getD j 0 * 4294967296 ^ j = val l + y * 4294967296 ^ j
  | [], j, _, h => absurd h (by simp)
  | x :: l, 0, y, _ => by simp only [List.set_cons_zero, val, List.getD_cons_zero, Nat.pow_zero, Nat.mul_one]; omega
  | x :: l, j + 1, y, h => by
    have ih := val_set l j y (by simpa using h)
    simp only [List.set_cons_succ, val, List.getD_cons_succ]
    rw [Nat.pow_succ, ← Nat.mul_assoc, ← Nat.mul_assoc]
    generalize l.getD j 0 * 4294967296 ^ j = a at *
    generalize y * 4294967296 ^ j = b at *
    omega
theorem val_take : ∀ (l : List Nat) (k : Nat), k < l.length → val (l.take (k + 1)) = val (l.take k) + l.getD k 0 * 4294967296 ^ k
  | [], k, h => absurd h (by simp)
  | x :: l, 0, _ => by simp [val]
  | x :: l, k + 1, h => by
    have ih := val_take l k (by simpa using h)
    simp only [List.take_succ_cons, val, List.getD_cons_succ]
    rw [ih, Nat.pow_succ, ← Nat.mul_assoc]
    generalize l.getD k 0 * 4294967296 ^ k = a
    omega
theorem val_zero (n : Nat) : val (List.replicate n 0) = 0 := by
  induction n with
  | zero => rfl
  | succ n ih => rw [List.replicate_succ, val, ih]
theorem val_lt : ∀ (l : List Nat), (∀ x ∈ l, x < 4294967296) → val l < 4294967296 ^ l.length
  | [], _ => by simp [val]
  | x :: l, h => by
    have h1 := h x (by simp)
    have h2 := val_lt l (fun y hy => h y (by simp [hy]))
    rw [val, List.length_cons, Nat.pow_succ]
    generalize 4294967296 ^ l.length = T at *
    omega
theorem tIn_far (a : Nat) (ys : List Nat) (i : Nat) : ∀ (k : Nat) (out : List Nat) (j : Nat), (j < i ∨ i + k ≤ j) → (tIn a ys i k out).1.getD j 0 = out.getD j 0
  | 0, _, _, _ => rfl
  | k + 1, out, j, h => by
    simp only [tIn]
    rw [List.getD_eq_getElem?_getD, List.getElem?_set_ne (by omega), ← List.getD_eq_getElem?_getD]
    exact tIn_far a ys i k out j (by omega)
theorem tIn_val (a : Nat) (ys : List Nat) (i : Nat) (ha : a < 4294967296) (hy : ∀ x ∈ ys, x < 4294967296) : ∀ (k : Nat) (out : List Nat), k ≤ ys.length → i + ys.length ≤ out.length → (∀ x ∈ out, x < 4294967296) →
    val (tIn a ys i k out).1 + (tIn a ys i k out).2 * 4294967296 ^ (i + k) = val out + a * val (ys.take k) * 4294967296 ^ i
  | 0, out, _, _, _ => by simp [tIn, val]
  | k + 1, out, hk, hl, ho => by
    have ih := tIn_val a ys i ha hy k out (by omega) hl ho
    obtain ⟨t1, t2, t3⟩ := tIn_ok a ys i k out ho
    obtain ⟨y, hy1, hyd⟩ := at_of (l := ys) (j := k) (by omega)
    obtain ⟨z, hz1, hzd⟩ := at_of (l := (tIn a ys i k out).1) (j := i + k) (by rw [t1]; omega)
    have hy32 := hy y (List.mem_of_getElem? hy1)
    have hz32 := t2 z (List.mem_of_getElem? hz1)
    have hP : a * y < 18446744065119617026 := by
      have h1 : a * y ≤ 4294967295 * 4294967295 := Nat.mul_le_mul (by omega) (by omega)
      omega
    have hs := val_set (tIn a ys i k out).1 (i + k) ((a * y + z + (tIn a ys i k out).2) % 18446744073709551616 % 4294967296) (by rw [t1]; omega)
    rw [val_take ys k (by omega)]
    simp only [tIn]
    rw [hyd, hzd]
    rw [hzd] at hs
    generalize (tIn a ys i k out).1.set (i + k) ((a * y + z + (tIn a ys i k out).2) % 18446744073709551616 % 4294967296) = o2 at *
    generalize (tIn a ys i k out).1 = o1 at *
    generalize (tIn a ys i k out).2 = c at *
    rw [Nat.mod_eq_of_lt (show a * y + z + c < 18446744073709551616 by omega)] at hs ⊢
    have hT : 4294967296 ^ (i + (k + 1)) = 4294967296 * 4294967296 ^ (i + k) := by rw [← Nat.add_assoc, Nat.pow_succ, Nat.mul_comm]
    have hK : a * (val (ys.take k) + y * 4294967296 ^ k) * 4294967296 ^ i = a * val (ys.take k) * 4294967296 ^ i + a * y * 4294967296 ^ (i + k) := by
      rw [Nat.mul_add, Nat.add_mul, Nat.add_comm i k, Nat.pow_add]
      simp only [Nat.mul_assoc]
    rw [hT, hK]
    generalize 4294967296 ^ (i + k) = T at *
    generalize a * val (ys.take k) * 4294967296 ^ i = V at *
    have hsum : (a * y + z + c) % 4294967296 * T + (a * y + z + c) / 4294967296 * (4294967296 * T) = a * y * T + z * T + c * T := by
      rw [← Nat.mul_assoc, ← Nat.add_mul, ← Nat.add_mul, ← Nat.add_mul]
      congr 1
      omega
    generalize (a * y + z + c) % 4294967296 * T = r at *
    generalize (a * y + z + c) / 4294967296 * (4294967296 * T) = q at *
    generalize a * y * T = p at *
    generalize z * T = zt at *
    generalize c * T = ct at *
    omega
theorem tOut_far (xs ys : List Nat) : ∀ (i j : Nat), i + ys.length ≤ j → (tOut xs ys i).getD j 0 = 0
  | 0, j, h => by
    simp only [tOut]
    rw [List.getD_eq_getElem?_getD, List.getElem?_replicate]
    split <;> rfl
  | i + 1, j, h => by
    simp only [tOut]
    rw [List.getD_eq_getElem?_getD, List.getElem?_set_ne (by omega), ← List.getD_eq_getElem?_getD, tIn_far _ _ _ _ _ _ (by omega)]
    exact tOut_far xs ys i j (by omega)
theorem tOut_val (xs ys : List Nat) (hx : ∀ x ∈ xs, x < 4294967296) (hy : ∀ x ∈ ys, x < 4294967296) : ∀ i, i ≤ xs.length → val (tOut xs ys i) = val (xs.take i) * val ys
  | 0, _ => by simp [tOut, val, val_zero]
  | i + 1, hi => by
    have ih := tOut_val xs ys hx hy i (by omega)
    obtain ⟨o1, o2⟩ := tOut_ok xs ys i
    obtain ⟨x, hx1, hxd⟩ := at_of (l := xs) (j := i) (by omega)
    have hx32 := hx x (List.mem_of_getElem? hx1)
    have h1 := tIn_val x ys i hx32 hy ys.length (tOut xs ys i) (Nat.le_refl _) (by omega) o2
    obtain ⟨t1, t2, t3⟩ := tIn_ok x ys i ys.length (tOut xs ys i) o2
    have h2 := val_set (tIn x ys i ys.length (tOut xs ys i)).1 (i + ys.length) ((tIn x ys i ys.length (tOut xs ys i)).2 % 4294967296) (by rw [t1]; omega)
    rw [tIn_far _ _ _ _ _ _ (by omega), tOut_far xs ys i _ (by omega), Nat.zero_mul, Nat.add_zero, Nat.mod_eq_of_lt t3] at h2
    simp only [tOut]
    rw [hxd, Nat.mod_eq_of_lt t3, h2, h1, ih, val_take xs i (by omega), hxd, List.take_length, Nat.add_mul]
    congr 1
    rw [Nat.mul_assoc, Nat.mul_comm (val ys), ← Nat.mul_assoc]
theorem times_val (xs ys : List Nat) (hx : ∀ x ∈ xs, x < 4294967296) (hy : ∀ x ∈ ys, x < 4294967296) : val (timesQ xs ys) = val xs * val ys := by
  unfold timesQ
  rw [tOut_val xs ys hx hy _ (Nat.le_refl _), List.take_length]
theorem abv_val (xs ys : List Nat) (hx : ∀ x ∈ xs, x < 4294967296) (hy : ∀ x ∈ ys, x < 4294967296) : ∀ i, i ≤ xs.length → i ≤ ys.length → abvQ xs ys i = decide (val (ys.take i) < val (xs.take i))
  | 0, _, _ => by simp [abvQ, val]
  | i + 1, h1, h2 => by
    have ih := abv_val xs ys hx hy i (by omega) (by omega)
    have l1 := val_lt (xs.take i) (fun x h => hx x (List.mem_of_mem_take h))
    have l2 := val_lt (ys.take i) (fun x h => hy x (List.mem_of_mem_take h))
    rw [List.length_take, Nat.min_eq_left (by omega)] at l1 l2
    rw [val_take xs i (by omega), val_take ys i (by omega)]
    simp only [abvQ]
    generalize xs.getD i 0 = a at *
    generalize ys.getD i 0 = b at *
    generalize val (xs.take i) = u at *
    generalize val (ys.take i) = v at *
    generalize 4294967296 ^ i = T at *
    by_cases e : a = b
    · rw [if_pos e, ih, e]
      congr 1
      apply propext
      omega
    · rw [if_neg e]
      congr 1
      apply propext
      constructor
      · intro h
        have : (b + 1) * T ≤ a * T := Nat.mul_le_mul_right T h
        rw [Nat.add_mul] at this
        omega
      · intro h
        rcases Nat.lt_or_ge b a with h3 | h3
        · exact h3
        · exfalso
          have : (a + 1) * T ≤ b * T := Nat.mul_le_mul_right T (by omega)
          rw [Nat.add_mul] at this
          omega
theorem limbs_val (x : Nat) (h : x < 18446744073709551616) : val (limbs x) = x := by
  unfold limbs
  simp only [val]
  omega
theorem pow_val (x : Nat) (h : x < 18446744073709551616) : ∀ i, val (powQ (limbs x) i) = x ^ (i + 1)
  | 0 => by rw [Nat.pow_one]; exact limbs_val x h
  | i + 1 => by
    show val (timesQ _ _) = _
    rw [times_val _ _ (pow_ok x i).2 (limbs_ok x).2, pow_val x h i, limbs_val x h, ← Nat.pow_succ]
theorem want_val (p n : Nat) (hn : 0 < n) : val (wantQ p n) = p * 4294967296 ^ n := by
  unfold wantQ
  have h := val_set (List.replicate (2 * n) 0) n p (by simp; omega)
  rw [val_zero, Nat.zero_add, List.getD_eq_getElem?_getD, List.getElem?_replicate, if_pos (by omega)] at h
  simpa using h
theorem rootF_eq (p n x : Nat) (hp : p < 4294967296) (hn : 0 < n) (hx : x < 18446744073709551616) : rootF p n x = decide (p * 4294967296 ^ n < x ^ n) := by
  unfold rootF
  have h1 := pow_ok x (n - 1)
  have h2 := want_ok p n hp
  rw [abv_val _ _ h1.2 h2.2 _ (by rw [h1.1]; omega) (by rw [h2.1]; omega)]
  rw [List.take_of_length_le (by rw [h2.1]; omega), List.take_of_length_le (by rw [h1.1]; omega), want_val p n hn, pow_val x hx, show n - 1 + 1 = n by omega]
theorem bis_same (f g : Nat → Bool) (h : ∀ x, x < 18446744073709551616 → f x = g x) : ∀ (k lo hi : Nat), lo ≤ hi → hi ≤ 137438953472 → bisQ f k lo hi = bisQ g k lo hi
  | 0, _, _, _, _ => rfl
  | k + 1, lo, hi, h1, h2 => by
    rw [bisQ, bisQ]
    by_cases hg : 1 < hi - lo
    · rw [if_pos hg, if_pos hg, h _ (by omega), bis_same f g h k lo _ (by omega) (by omega), bis_same f g h k _ hi (by omega) (by omega)]
    · rw [if_neg hg, if_neg hg]
def rootP (p n : Nat) : Nat := bisQ (fun x => decide (p * 4294967296 ^ n < x ^ n)) 37 0 137438953472 % 4294967296
theorem rootQ_eq (p n : Nat) (hp : p < 4294967296) (hn : 0 < n) : rootQ p n = rootP p n := by
  unfold rootQ rootP
  rw [bis_same _ _ (fun x hx => rootF_eq p n x hp hn hx) 37 0 _ (by decide) (by decide)]
def RT2 : List Nat := [6074000999, 7439101573, 9603838834, 11363415354, 14244795007, 15485724812, 17708603819, 18721328409]
def RT3 : List Nat := [5411319704, 6194414737, 7344290767, 8215976869, 9551921755, 10098905585, 11043570340, 11460697813, 12214315672, 13195500289, 13492127166, 14311783875, 14809980276, 15046980094, 15499789991, 16133124468, 16720292289, 16907126662, 17444216262, 17784676812, 17950125167, 18429019306, 18734950876, 19175934170, 19734090066, 20001703533, 20132865992, 20390182855, 20516441075, 20764397895, 21588763473, 21813078375, 22141143685, 22248366392, 22769593852, 22871018771, 23170020180, 23461497531, 23651862830, 23931792517, 24205322401, 24295138891, 24734567280, 24820601251, 24990902297, 25075189284, 25569408389, 26045227120, 26200031510, 26276752392, 26428864332, 26653801653, 26727943347, 27092625994, 27306805839, 27517677555, 27725365998, 27793908591, 27997534228, 28131656200, 28198240250, 28526537963, 28973835255, 29099129074]
theorem bis_spec (f : Nat → Bool) (hm : ∀ x y, x ≤ y → f x = true → f y = true) (r : Nat) (h0 : f r = false) (h1 : f (r + 1) = true) : ∀ (k lo hi : Nat), f lo = false → f hi = true → hi - lo ≤ 2 ^ k → bisQ f k lo hi = r := by
  have key : ∀ lo hi, f lo = false → f hi = true → lo ≤ r ∧ r < hi := by
    intro lo hi hl hh
    constructor
    · rcases Nat.lt_or_ge r lo with h | h
      · have := hm (r + 1) lo h h1
        rw [hl] at this; cases this
      · exact h
    · rcases Nat.lt_or_ge r hi with h | h
      · exact h
      · have := hm hi r h hh
        rw [h0] at this; cases this
  intro k
  induction k with
  | zero =>
    intro lo hi hl hh hk
    have := key lo hi hl hh
    rw [bisQ]
    rw [Nat.pow_zero] at hk
    omega
  | succ k ih =>
    intro lo hi hl hh hk
    have hb := key lo hi hl hh
    rw [bisQ]
    have hp : 2 ^ (k + 1) = 2 * 2 ^ k := by rw [Nat.pow_succ, Nat.mul_comm]
    by_cases hg : 1 < hi - lo
    · rw [if_pos hg]
      cases hx : f ((lo + hi) / 2) with
      | true => rw [if_pos rfl]; exact ih lo _ hl hx (by omega)
      | false => rw [if_neg (by decide)]; exact ih _ hi hx hh (by omega)
    · rw [if_neg hg]; omega
theorem rootP_is (p n r : Nat) (hn : n = 2 ∨ n = 3) (hp : 0 < p) (h0 : ¬ p * 4294967296 ^ n < r ^ n) (h1 : p * 4294967296 ^ n < (r + 1) ^ n) (h2 : p * 4294967296 ^ n < 137438953472 ^ n) : rootP p n = r % 4294967296 := by
  unfold rootP
  rw [bis_spec _ ?_ r (decide_eq_false h0) (decide_eq_true h1) 37 0 137438953472 ?_ (decide_eq_true h2) (by decide)]
  · intro x y hxy h
    have h3 := of_decide_eq_true h
    exact decide_eq_true (Nat.lt_of_lt_of_le h3 (Nat.pow_le_pow_left hxy n))
  · refine decide_eq_false ?_
    rcases hn with rfl | rfl <;> simp
theorem roots_ok (m n : Nat) (R : List Nat) (hn : n = 2 ∨ n = 3) (H : List Nat) (hm : m ≤ 64) (hH : H.length = m)
    (h : ((List.range m).all fun i => decide (0 < PR64.getD i 0) && (!decide (PR64.getD i 0 * 4294967296 ^ n < (R.getD i 0) ^ n)) && decide (PR64.getD i 0 * 4294967296 ^ n < (R.getD i 0 + 1) ^ n) && decide (PR64.getD i 0 * 4294967296 ^ n < 137438953472 ^ n) && decide (R.getD i 0 % 4294967296 = H.getD i 0)) = true) :
    (PR64.take m).map (fun p => rootP p n) = H := by
  refine List.ext_getElem? fun i => ?_
  rcases Nat.lt_or_ge i m with hi | hi
  · have h1 := (List.all_eq_true.1 h) i (List.mem_range.2 hi)
    simp only [Bool.and_eq_true, decide_eq_true_eq, Bool.not_eq_true', decide_eq_false_iff_not] at h1
    obtain ⟨⟨⟨⟨a1, a2⟩, a3⟩, a4⟩, a5⟩ := h1
    have hl := pr_len
    rw [List.getElem?_map, List.getElem?_take, if_pos hi, List.getElem?_eq_getElem (by omega), List.getElem?_eq_getElem (show i < H.length by omega), Option.map_some]
    have e1 : PR64.getD i 0 = PR64[i]'(by omega) := getD_of (List.getElem?_eq_getElem _)
    have e2 : H.getD i 0 = H[i]'(by omega) := getD_of (List.getElem?_eq_getElem _)
    rw [e1] at a1 a2 a3 a4
    rw [e2] at a5
    rw [rootP_is _ n _ hn a1 a2 a3 a4, a5]
  · rw [List.getElem?_eq_none (by rw [List.length_map, List.length_take]; omega), List.getElem?_eq_none (by omega)]
theorem sq_roots : (PR64.take 8).map (fun p => rootP p 2) = H0 := roots_ok 8 2 RT2 (.inl rfl) H0 (by decide) H0_len (by kernel_rfl)
theorem cb_roots : (PR64.take 64).map (fun p => rootP p 3) = K0 := roots_ok 64 3 RT3 (.inr rfl) K0 (by decide) K0_len (by kernel_rfl)
end Go.Proofs.YtcedojmhgmgcgaaGreatDoor
namespace Go.Proofs.YtcedojmhgmgcgaaGreatDoor
open Go.RowKit Go
set_option linter.unusedVariables false
set_option linter.unusedSimpArgs false
set_option maxRecDepth 100000
theorem ps_pre : ∀ x, x ≤ 312 → psB x = PR64.take (psB x).length := by
  have h : ((List.range 313).all fun x => decide (psB x = PR64.take (psB x).length)) = true := by kernel_rfl
  intro x hx
  exact of_decide_eq_true ((List.all_eq_true.1 h) x (List.mem_range.2 (by omega)))
set_option maxHeartbeats 4000000 in
theorem dprimes_any (n : Nat) (hn : n ≤ 64) (w : World) : Calls Tryz.prog 68 #[.int .i64 (n : Int)] w fun e w' => ∃ A c, e = .returned (.slice A n c) ∧ OwnU w' w.heap.size A n c (PR64.take n) ∧ Below w.heap.size w w' := by
  obtain ⟨G, hG⟩ : ∃ G, w.heap.size = G := ⟨_, rfl⟩
  go_enter Tryz.func68, Tryz.ntmps68
  go_wp2_with fail
  go_loopw [3, 4] (fun vl vp wl => ∃ (A : Option Addr) (m c x : Nat), vl = .slice A m c ∧ vp = .int .u32 (x : Int) ∧ 2 ≤ x ∧ x ≤ 312 ∧ m ≤ n ∧ Hid (m = (psB x).length ∧ OwnU wl G A m c (psB x) ∧ Below G w wl)) (fun _ vp _ => 312 - (intOf vp).toNat)
  case atStart => exact ⟨none, 0, 0, 2, rfl, rfl, by omega, by omega, by omega, by rw [ps_two]; rfl, by rw [ps_two]; exact OwnR.nil _ _ _ _, by rw [← hG]; exact Below.refl _ _⟩
  case round =>
    obtain ⟨A, m, c, x, rfl, rfl, hx2, hx3, hmn, HK⟩ := hrel
    by_cases hlt : m < n
    · have hx312 : x < 312 := by
        rcases Nat.lt_or_ge x 312 with h | h
        · exact h
        · exfalso
          obtain rfl : x = 312 := by omega
          have := HK.out.1
          rw [ps_all, pr_len] at this
          omega
      have HST := Lib.hid (ps_step x hx312 hx2)
      have i1 : (m : Int) < (n : Int) := by omega
      have e1 : IntKind.u32.wrap ((x : Int) + 1) = (x : Int) + 1 := by rw [IntKind.wrap_u32]; omega
      go_wp2_with fail
      go_loop [5, 6] (fun vb vi => ∃ (i : Nat) (b : Bool), vb = .bool b ∧ vi = .int .i64 (i : Int) ∧ i ≤ m ∧ Hid (b = ((psB x).take i).all (fun p => x % p != 0))) (fun _ vi => m - (intOf vi).toNat)
      case atStart => exact ⟨0, true, rfl, rfl, Nat.zero_le _, rfl⟩
      case round =>
        obtain ⟨i, b, rfl, rfl, hi, HB⟩ := hrel
        have e2 : IntKind.i64.wrap ((i : Int) + 1) = (i : Int) + 1 := IntWalk.i64_in _ (by omega)
        by_cases him : i < m
        · obtain ⟨p, hp⟩ : ∃ p, (psB x)[i]? = some p := ⟨_, List.getElem?_eq_getElem (by rw [← HK.out.1]; exact him)⟩
          obtain ⟨ba, oa, rfl, hba, hc⟩ := read_at (OwnR.reads HK.out.2.1) i p hp
          have hpb := pr_bd p ((List.mem_filter.1 (List.mem_of_getElem? hp)).1)
          obtain ⟨r, hr⟩ : ∃ r, x % p = r := ⟨_, rfl⟩
          have e3 : (x : Int) % (p : Int) = (r : Int) := by rw [← hr]; rfl
          have e4 : (x : Int).tmod (p : Int) = (r : Int) := by rw [Int.tmod_eq_emod_of_nonneg (by omega)]; exact e3
          have p0 : ((p : Int) == 0) = false := by simp; omega
          have HT : Hid (((psB x).take (i + 1)).all (fun p => x % p != 0) = (b && (r != 0))) := by
            unfold Hid
            rw [List.take_add_one, hp, List.all_append, ← HB.out]
            simp [hr]
          have i2 : (i : Int) < (m : Int) := by omega
          have hrb : r < p := by rw [← hr]; exact Nat.mod_lt _ (by omega)
          clear hp hr hba
          cases b with
          | false =>
            go_wp2
            go_round
            case rel => exact ⟨i + 1, false, rfl, by go_num, by omega, by unfold Hid; rw [HT.out]; rfl⟩
            case measure => simp [intOf]; omega
          | true =>
            by_cases hr0 : r = 0
            · subst hr0
              have t1 : (((0 : Nat) : Int) != 0) = false := by simp
              go_wp2
              go_round
              case rel => exact ⟨i + 1, false, rfl, by go_num, by omega, by unfold Hid; rw [HT.out]; rfl⟩
              case measure => simp [intOf]; omega
            · have t1 : ((r : Int) != 0) = true := by simp; omega
              have HT2 : Hid (true = ((psB x).take (i + 1)).all (fun p => x % p != 0)) := by unfold Hid; rw [HT.out]; simp; omega
              go_wp2
              go_round
              case rel => exact ⟨i + 1, true, rfl, by go_num, by omega, HT2⟩
              case measure => simp [intOf]; omega
        · obtain rfl : i = m := by omega
          have i2 : ¬ (i : Int) < (i : Int) := by omega
          have HBA : Hid (b = (psB x).all (fun p => x % p != 0)) := by
            have := HB.out
            rw [List.take_of_length_le (by rw [← HK.out.1]; omega)] at this
            exact this
          cases b with
          | false =>
            have HN : Hid (i = (psB (x + 1)).length ∧ OwnU wr G A i c (psB (x + 1)) ∧ Below G w wr) := by
              unfold Hid
              rw [HST.out.1, ← HBA.out, if_neg (by decide)]
              exact HK.out
            clear HK
            go_wp2
            go_roundw
            case rel => exact ⟨A, i, c, x + 1, rfl, by go_num, by omega, by omega, by omega, HN.out⟩
            case measure => simp [intOf]; omega
          | true =>
            have hs : G ≤ wr.heap.size := by have := HK.out.2.2.size; omega
            go_wp2_with (at_builtin; refine wpList_appL u32_row _ _ rfl rfl rfl G A i c ((psB x).map v32) rfl (OwnR.alloc HK.out.2.1 _) wr.heap.size 1 1 #[.int .u32 (x : Int)] (0, 0) rfl (has_new wr _) rfl (by intro u hu; simp at hu; subst hu; rfl) (by unfold maxLen; omega) (by omega) (by simp; omega) ?_)
            intro V' c' w' hown hg
            have HN : Hid (i + 1 = (psB (x + 1)).length ∧ OwnU w' G V' (i + 1) c' (psB (x + 1)) ∧ Below G w w') := by
              refine ⟨by rw [HST.out.1, ← HBA.out, if_pos rfl, List.length_append, ← HK.out.1]; rfl, ?_, (HK.out.2.2.alloc hs _).grown hg (by simp; omega) (fun g hg => (HK.out.2.1.blk_lt hg).1)⟩
              unfold OwnU
              rw [HST.out.1, ← HBA.out, if_pos rfl, List.map_append]
              exact hown
            clear HK hown hg
            go_wp2
            go_roundw
            case rel => exact ⟨V', i + 1, c', x + 1, rfl, by go_num, by omega, by omega, by omega, HN.out⟩
            case measure => simp [intOf]; omega
    · obtain rfl : m = n := by omega
      have i1 : ¬ (m : Int) < (m : Int) := by omega
      have hp : psB x = PR64.take m := by rw [ps_pre x hx3, ← HK.out.1]
      have HP := Lib.hid hp
      clear hp
      go_wp2
      go_ret
      refine ⟨A, c, rfl, ?_, HK.out.2.2⟩
      rw [← HP.out]
      exact HK.out.2.1
end Go.Proofs.YtcedojmhgmgcgaaGreatDoor
namespace Go.Proofs.YtcedojmhgmgcgaaGreatDoor
open Go.RowKit Go
set_option linter.unusedVariables false
set_option linter.unusedSimpArgs false
set_option maxRecDepth 100000
/-- Appending bytes; the new slice lies where the old one lay, or in a new block. -/
theorem run_appA (w : World) (base : Nat) (A0 : Option Addr) (n0 c0 : Nat) (bs : List UInt8) (hown : OwnB w base A0 n0 c0 bs)
    (B : Nat) (A : Option Addr) (c : Nat) (news : List UInt8) (hr : Bs w B A news) (hlim : n0 + news.length ≤ 140737488355328) (hbase : base ≤ w.heap.size) :
    ∃ A' c' w', (Builtin.append_ #[22, 22] 22 #[.slice A0 n0 c0, .slice A news.length c]).run Tryz.prog w = .ok (.slice A' (n0 + news.length) c') w' ∧
      OwnB w' base A' (n0 + news.length) c' (bs ++ news) ∧ w.grownBy w' (blk A0) ∧ (blk A' = blk A0 ∨ blk A' = some w.heap.size) := by
  obtain ⟨i, hi, hz0, hz1, hz2⟩ := info_parts u8_info
  by_cases hn : news = []
  · subst hn
    obtain ⟨A', c', w', h1, h2, h3⟩ := run_app w base A0 n0 c0 bs hown B A c [] hr (by rw [hown.len]; exact hlim) hbase
    refine ⟨A0, c0, w, ?_, by simpa using hown, World.grownBy.refl w _, .inl rfl⟩
    rcases hown.2 with ⟨hv, rfl⟩ | ⟨g, cap, cur, hv, _, hh, hnc, _, hcs, _⟩
    · injection hv with e1 e2 e3
      subst e1; subst e3
      rcases A with _ | ad
      · simp [Builtin.append_, run_underlying Tryz.underlying22, sizeOf, typeInfo, hi, Builtin.lenOf, Builtin.firstCells]
      · simp [Builtin.append_, run_underlying Tryz.underlying22, sizeOf, typeInfo, hi, Builtin.lenOf, Builtin.firstCells, loadCells, loadCellsFrom]
    · injection hv with e1 e2 e3
      subst e1; subst e3
      rcases A with _ | ad
      · simp [Builtin.append_, run_underlying Tryz.underlying22, sizeOf, typeInfo, hi, Builtin.lenOf, Builtin.firstCells, hnc, storeCells]
      · simp [Builtin.append_, run_underlying Tryz.underlying22, sizeOf, typeInfo, hi, Builtin.lenOf, Builtin.firstCells, hnc, storeCells, loadCells, loadCellsFrom]
  · obtain ⟨b, off, rfl, _, hc⟩ := hr hn
    have hnews : ∀ j u, (news.map bv)[j]? = some u → w.cell? ((⟨b, off, none⟩ : Addr).add j) = some u := by
      intro j u hj
      have hjl : j < news.length := by
        rcases Nat.lt_or_ge j news.length with h | h
        · exact h
        · rw [List.getElem?_eq_none (by simpa using h)] at hj; cases hj
      rw [List.getElem?_map, List.getElem?_eq_getElem hjl] at hj
      injection hj with hj
      have hadd : (⟨b, off, none⟩ : Addr).add j = ⟨b, off + j, none⟩ := by unfold Addr.add; split <;> simp_all
      rw [hadd, hc j hjl, ← hj]
    obtain ⟨v', w', hrun, h2, h3, _, h5⟩ := run_append_own_at (P := Tryz.prog) w base 22 22 5 i (.int .u8 0) 1 1 Tryz.underlying22 hi hz0 hz1 hz2 rfl (by decide) (.slice A0 n0 c0) n0 (bs.map bv) hown ⟨b, off, none⟩ news.length c (news.map bv)
      (by simp) hnews (by intro u hu; simp at hu; obtain ⟨q, _, rfl⟩ := hu; rfl) (by unfold maxLen; omega) (by omega) hbase
    rw [blk_own] at h3 h5
    rcases h2.2 with ⟨rfl, hn0⟩ | ⟨g, cap, cur, rfl, hg⟩
    · refine ⟨none, 0, w', by rw [hrun, hn0], ?_, h3, by rw [blk_own] at h5; exact h5⟩
      unfold OwnB
      rw [List.map_append]
      rw [hn0] at h2 ⊢
      exact h2
    · refine ⟨some ⟨g, 0, none⟩, cap, w', hrun, ?_, h3, by rw [blk_own] at h5; exact h5⟩
      unfold OwnB
      rw [List.map_append]
      exact h2
section
variable {w : World} {ops : Array Oper} {rest : List Oper} {o : Oper} {a : Act} {Q : Exit → Act → World → Prop}
theorem wpList_appA (s x : Operand) (ho : o.op = .call { callee := .builtin .append, args := #[s, x], argTypes := #[22, 22] }) (hgd : o.guard = none) (hty : o.type = 22)
    (base : Nat) (A0 : Option Addr) (n0 c0 : Nat) (bs : List UInt8) (hs : a.eval s = .slice A0 n0 c0) (hown : OwnB w base A0 n0 c0 bs)
    (A : Option Addr) (m c : Nat) (news : List UInt8) (hx : a.eval x = .slice A m c) (hr : RB w A m news) (hlim : n0 + m ≤ 140737488355328) (hbase : base ≤ w.heap.size)
    (h : ∀ A' c' w', OwnB w' base A' (n0 + m) c' (bs ++ news) → w.grownBy w' (blk A0) → (blk A' = blk A0 ∨ blk A' = some w.heap.size) → wpList Tryz.prog ops Q rest (a.put o.dst (.slice A' (n0 + m) c')) w') : wpList Tryz.prog ops Q (o :: rest) a w := by
  obtain ⟨rfl, hb⟩ := hr
  refine wpList_plain hgd fun K hK => ?_
  obtain ⟨A', c', w', hrun, h2, h3, h4⟩ := run_appA w base A0 n0 c0 bs hown _ A c news hb hlim hbase
  unfold Oper.wp execOp
  simp only [ho, resolve, invoke, builtin, Sem.run_bind, Sem.run_pure, Result.andThen_ok, List.map_toArray, List.map_cons, List.map_nil, hs, hx, hty, hrun]
  exact hK _ _ (h A' c' w' h2 h3 h4)
end
end Go.Proofs.YtcedojmhgmgcgaaGreatDoor
namespace Go.Proofs.YtcedojmhgmgcgaaGreatDoor
open Go.RowKit Go
set_option linter.unusedVariables false
set_option linter.unusedSimpArgs false
set_option maxRecDepth 100000
def rootsAt (m n i : Nat) : List Nat := ((PR64.take m).take i).map (fun p => rootQ p n) ++ List.replicate (m - i) 0
theorem rootsAt_len (m n i : Nat) (hm : m ≤ 64) (hi : i ≤ m) : (rootsAt m n i).length = m := by
  have := pr_len
  unfold rootsAt
  simp
  omega
theorem rootsAt_next (m n i p : Nat) (hm : m ≤ 64) (hi : i < m) (hp : (PR64.take m)[i]? = some p) : (rootsAt m n i).set i (rootQ p n) = rootsAt m n (i + 1) := by
  have hl := pr_len
  have h1 : (((PR64.take m).take i).map (fun p => rootQ p n)).length = i := by simp; omega
  unfold rootsAt
  rw [List.set_append_right _ _ (by omega), h1, Nat.sub_self, List.take_add_one, hp, List.map_append, show m - i = (m - (i + 1)) + 1 by omega, List.replicate_succ]
  simp
theorem rootQ_lt (p n : Nat) : rootQ p n < 4294967296 := Nat.mod_lt _ (by decide)
set_option maxHeartbeats 4000000 in
theorem droots_any (m n : Nat) (hm : m ≤ 64) (hm0 : 0 < m) (hn : 1 ≤ n) (hn2 : n ≤ 10) (w : World) : Calls Tryz.prog 47 #[.int .i64 (m : Int), .int .i64 (n : Int)] w fun e w' =>
    ∃ g, e = .returned (.slice (some ⟨g, 0, none⟩) m m) ∧ OwnU w' w.heap.size (some ⟨g, 0, none⟩) m m ((PR64.take m).map (fun p => rootQ p n)) ∧ Below w.heap.size w w' := by
  obtain ⟨G, hG⟩ : ∃ G, w.heap.size = G := ⟨_, rfl⟩
  have hl := pr_len
  have PA := Lib.hid (dprimes_any m hm w)
  rw [hG] at PA
  go_enter Tryz.func47, Tryz.ntmps47
  go_wp2_with fail
  refine PA.out.mono ?_
  rintro e w1 ⟨A, c, rfl, hown, hb1⟩
  have hs1 : G ≤ w1.heap.size := by have := hb1.size; omega
  have H1 : Hid (OwnU w1 G A m c (PR64.take m) ∧ Below G w w1) := ⟨hown, hb1⟩
  have HAB : Hid (∀ k, blk A = some k → k < w1.heap.size) := fun k hk => (OwnR.blk_lt hown hk).2
  clear hown hb1 PA
  go_wp2_with (refine wpList_mkR u32_row _ _ rfl rfl _ _ _ _ m rfl rfl rfl rfl (by unfold maxLen; omega) (by omega) ?_)
  intro w2 hown2 hg2
  rw [toList_madeCells_one] at hown2
  obtain ⟨g, hg⟩ : ∃ g, w1.heap.size = g := ⟨_, rfl⟩
  rw [hg] at hown2 hs1 HAB
  have H2 : Hid (OwnU w2 g (some ⟨g, 0, none⟩) m m (rootsAt m n 0) ∧ OwnU w2 G A m c (PR64.take m) ∧ Below G w w2 ∧ g < w2.heap.size) := by
    obtain ⟨q1, q2⟩ := H1.out
    have h2 := (OwnR.blk_lt hown2 (g := g) rfl).2
    refine ⟨?_, OwnR.kept q1 hg2 ?_, q2.grown hg2 (by omega) (by intro k hk; cases hk), h2⟩
    · unfold OwnU rootsAt
      rw [List.take_zero, List.map_nil, List.nil_append, List.map_replicate]
      exact hown2
    · cases blk A <;> simp
  clear hown2 hg2 H1
  rw [hg]
  go_wp2_with fail
  go_loopw [7] (fun vi wl => ∃ i : Nat, vi = .int .i64 (i : Int) ∧ i ≤ m ∧ Hid (OwnU wl g (some ⟨g, 0, none⟩) m m (rootsAt m n i) ∧ OwnU wl G A m c (PR64.take m) ∧ Below G w wl ∧ g < wl.heap.size)) (fun vi _ => m - (intOf vi).toNat)
  case atStart => exact ⟨0, rfl, Nat.zero_le _, H2.out⟩
  case round =>
    obtain ⟨i, rfl, hi, HK⟩ := hrel
    clear H2
    by_cases hlt : i < m
    · obtain ⟨q1, q2, q3, q4⟩ := HK.out
      obtain ⟨p, hp⟩ : ∃ p, (PR64.take m)[i]? = some p := ⟨_, List.getElem?_eq_getElem (by rw [List.length_take]; omega)⟩
      have hpb := pr_bd p (List.mem_of_mem_take (List.mem_of_getElem? hp))
      obtain ⟨ba, oa, rfl, hba, hc⟩ := read_at (OwnR.reads q2) i p hp
      have RA := Lib.hid (root_any p n (by omega) hn hn2 wr)
      have HP := Lib.hid hp
      have i1 : (i : Int) < (m : Int) := by omega
      have e1 : IntKind.i64.wrap ((i : Int) + 1) = (i : Int) + 1 := IntWalk.i64_in _ (by omega)
      clear hp hba q1 q2 q3 q4
      go_wp2_with fail
      refine RA.out.mono ?_
      rintro e w5 ⟨rfl, hb5⟩
      obtain ⟨q1, q2, q3, q4⟩ := HK.out
      have q1' : OwnU w5 g (some ⟨g, 0, none⟩) m m (rootsAt m n i) := OwnR.below q1 hb5 (Nat.le_refl _)
      have q2' := OwnR.below q2 hb5 (Nat.le_refl _)
      have hne : blk (some ⟨ba, oa, none⟩) = none ∨ blk (some ⟨ba, oa, none⟩) ≠ some g := by
        right
        intro e
        have := HAB.out _ e
        omega
      have fO := OwnR.free q1' i
      obtain ⟨z, hz⟩ : ∃ z, (rootsAt m n i)[i]? = some z := ⟨_, List.getElem?_eq_getElem (by rw [rootsAt_len m n i hm (by omega)]; exact hlt)⟩
      have cO := q1'.cellAt i z hz
      have HN : Hid (OwnU (w5.setCell ⟨g, i, none⟩ (.int .u32 (rootQ p n : Nat))) g (some ⟨g, 0, none⟩) m m (rootsAt m n (i + 1)) ∧ OwnU (w5.setCell ⟨g, i, none⟩ (.int .u32 (rootQ p n : Nat))) G (some ⟨ba, oa, none⟩) m c (PR64.take m) ∧ Below G w (w5.setCell ⟨g, i, none⟩ (.int .u32 (rootQ p n : Nat))) ∧ g < (w5.setCell ⟨g, i, none⟩ (.int .u32 (rootQ p n : Nat))).heap.size) := by
        refine ⟨?_, OwnR.kept q2' (grown_one w5 g i _) hne, ((q3.trans (hb5.mono (by omega))).setCell (by omega) _), ?_⟩
        · rw [← rootsAt_next m n i p hm hlt HP.out]
          exact q1'.store i _
        · have := hb5.size
          rw [World.size_setCell]
          omega
      clear q1 q2 q3 q4 q1' q2' hb5 hne HK RA hz hc
      go_wp2
      go_roundw
      case rel => exact ⟨i + 1, by go_num, by omega, HN.out⟩
      case measure => simp [intOf]; omega
    · obtain rfl : i = m := by omega
      have i1 : ¬ (i : Int) < (i : Int) := by omega
      have hfull : rootsAt i n i = (PR64.take i).map (fun p => rootQ p n) := by
        unfold rootsAt
        rw [Nat.sub_self, List.take_of_length_le (by rw [List.length_take]; omega)]
        simp
      have HF := Lib.hid hfull
      clear hfull
      go_wp2
      go_ret
      refine ⟨g, rfl, ?_, HK.out.2.2.1⟩
      have h := OwnR.lower HK.out.1 hs1
      rw [HF.out] at h
      first
        | exact h
        | (rw [List.map_take] at h; exact h)
theorem run_shrQ (x q : Nat) (hq : q ≤ 64) (w : World) : (Op.shift BinOp.shr IntKind.u64 (x : Int) IntKind.u64 (q : Int)).run Tryz.prog w = .ok (.int .u64 ((x : Int) / 2 ^ q)) w := by
  unfold Op.shift
  rw [if_neg (by omega)]
  have hm : min (q : Int).toNat IntKind.u64.bits = q := by
    show min (q : Int).toNat 64 = q
    omega
  simp only [hm]
  rw [Int.fdiv_eq_ediv_of_nonneg _ (Int.pow_nonneg (by decide))]
  rfl
def slLenX : Value → Nat
  | .slice _ n _ => n
  | _ => 0
/-- The padding of the document: one byte, noughts, the count of bits. -/
def bitsAt (t i : Nat) : List UInt8 := (padShL t).take i
set_option maxHeartbeats 4000000 in
theorem padded_any (A : Option Addr) (n c : Nat) (bs : List UInt8) (w : World) (h : RB w A n bs) (hn : n ≤ 1000000) :
    Calls Tryz.prog 48 #[.slice A n c] w fun e w' => ∃ A' c', e = .returned (.slice A' (n + (zerosQ n + 9)) c') ∧ OwnB w' w.heap.size A' (n + (zerosQ n + 9)) c' (bs ++ padB n) ∧ Below w.heap.size w w' := by
  obtain ⟨G, hG⟩ : ∃ G, w.heap.size = G := ⟨_, rfl⟩
  have CA := Lib.hid (copy_any A n c bs w h (by omega))
  have HLB := Lib.hid h.1
  clear h
  go_enter Tryz.func48, Tryz.ntmps48
  go_wp2_with fail
  refine CA.out.mono ?_
  rintro e w1 ⟨A1, n1, c1, rfl, hown, hb1⟩
  rw [hG] at hown hb1
  obtain rfl : n = n1 := by rw [← HLB.out]; exact hown.len
  have H1 : Hid (OwnB w1 G A1 n c1 bs ∧ Below G w w1) := ⟨hown, hb1⟩
  have hs1 : G ≤ w1.heap.size := by have := hb1.size; omega
  have RN : Hid (∀ (W : World) (x : UInt8), RB (W.alloc (.cells #[.int .u8 (x.toNat : Int)] 5)) (some ⟨W.heap.size, 0, none⟩) 1 [x]) := fun W x => ⟨rfl, (bs_new W [x] 5 (0, 0) _ rfl).more (by simp)⟩
  clear hown hb1 CA
  go_wp2_with (at_builtin; refine wpList_apn _ _ rfl rfl rfl G A1 n c1 bs rfl (H1.out.1.alloc _) (some ⟨w1.heap.size, 0, none⟩) 1 1 [128] rfl (RN.out w1 128) (by omega) (by simp; omega) ?_)
  intro A2 c2 w2 hown2 hg2
  have H2 : Hid (OwnB w2 G A2 (n + 1) c2 (bs ++ (128 :: List.replicate 0 0)) ∧ Below G w w2) :=
    ⟨hown2, (H1.out.2.alloc hs1 _).grown hg2 (by simp; omega) (fun g hg => (H1.out.1.blk_lt hg).1)⟩
  obtain ⟨z, hz⟩ : ∃ z, zerosQ n = z := ⟨_, rfl⟩
  have hz1 : (119 - n % 64) % 64 = z := hz
  have HZ := Lib.hid hz
  have hz63 : z < 64 := by omega
  clear hown2 hg2 H1 hs1 hz
  go_wp2_with fail
  go_loopw [3] (fun va wl => ∃ (k : Nat) (A3 : Option Addr) (c3 : Nat), va = .slice A3 (n + 1 + k) c3 ∧ k ≤ z ∧ Hid (OwnB wl G A3 (n + 1 + k) c3 (bs ++ (128 :: List.replicate k 0)) ∧ Below G w wl)) (fun va _ => n + 1 + z - slLenX va)
  case atStart => exact ⟨0, A2, c2, rfl, Nat.zero_le _, H2.out⟩
  case round =>
    obtain ⟨k, A3, c3, rfl, hk, HK⟩ := hrel
    clear H2
    by_cases hkz : k < z
    · obtain ⟨r, hr⟩ : ∃ r, (n + 1 + k) % 64 = r := ⟨_, rfl⟩
      have e1 : ((n : Int) + 1 + (k : Int)) % 64 = (r : Int) := by omega
      have t1 : ((r : Int) != 56) = true := by simp; omega
      have hs : G ≤ wr.heap.size := by have := HK.out.2.size; omega
      clear hr hz1
      go_wp2_with (at_builtin; refine wpList_apn _ _ rfl rfl rfl G A3 (n + 1 + k) c3 (bs ++ (128 :: List.replicate k 0)) rfl (HK.out.1.alloc _) (some ⟨wr.heap.size, 0, none⟩) 1 1 [0] rfl (RN.out wr 0) (by omega) (by simp; omega) ?_)
      intro A4 c4 w4 hown4 hg4
      have HN : Hid (OwnB w4 G A4 (n + 1 + (k + 1)) c4 (bs ++ (128 :: List.replicate (k + 1) 0)) ∧ Below G w w4) := by
        refine ⟨?_, (HK.out.2.alloc hs _).grown hg4 (by simp; omega) (fun g hg => (HK.out.1.blk_lt hg).1)⟩
        rw [List.replicate_succ']
        exact hown4
      clear hown4 hg4 HK
      go_wp2
      go_roundw
      case rel => exact ⟨k + 1, A4, c4, rfl, by omega, HN.out⟩
      case measure => simp only [slLenX]; omega
    · obtain rfl : k = z := by omega
      have e1 : ((n : Int) + 1 + (k : Int)) % 64 = 56 := by omega
      have e2 : IntKind.u64.wrap (n : Int) = (n : Int) := by rw [IntKind.wrap_u64]; omega
      obtain ⟨x, hx⟩ : ∃ x, n * 8 % 18446744073709551616 = x := ⟨_, rfl⟩
      have e3 : IntKind.u64.wrap (8 * (n : Int)) = (x : Int) := by rw [IntKind.wrap_u64]; omega
      have HX := Lib.hid hx
      have H3 : Hid (OwnB wr G A3 (n + 1 + k + 0) c3 (bs ++ (128 :: List.replicate k 0) ++ (padShL n).take 0) ∧ Below G w wr) := by
        rw [List.take_zero, List.append_nil]
        exact HK.out
      clear hx HK hz1
      go_wp2_with fail
      try rw [e1]
      try rw [e3]
      clear e1 e2 e3
      go_loopw [3, 5] (fun va vi wl => ∃ (j : Nat) (A4 : Option Addr) (c4 : Nat), va = .slice A4 (n + 1 + k + j) c4 ∧ vi = .int .i64 (7 - (j : Int)) ∧ j ≤ 8 ∧ Hid (OwnB wl G A4 (n + 1 + k + j) c4 (bs ++ (128 :: List.replicate k 0) ++ (padShL n).take j) ∧ Below G w wl)) (fun _ vi _ => (intOf vi + 1).toNat)
      case atStart => exact ⟨0, A3, c3, rfl, rfl, by omega, H3.out⟩
      case round =>
        obtain ⟨j, A4, c4, rfl, rfl, hj, HJ⟩ := hrel
        clear H3
        by_cases hj8 : j < 8
        · have i1 : 7 - (j : Int) ≥ 0 := by omega
          have e4 : IntKind.i64.wrap (8 * (7 - (j : Int))) = 8 * (7 - (j : Int)) := IntWalk.i64_in _ (by omega)
          obtain ⟨q, hq⟩ : ∃ q : Nat, 8 * (7 - j) = q := ⟨_, rfl⟩
          have e5 : 8 * (7 - (j : Int)) = (q : Int) := by omega
          have e6 : IntKind.u64.wrap (q : Int) = (q : Int) := by rw [IntKind.wrap_u64]; omega
          have e7 : IntKind.i64.wrap (7 - (j : Int) - 1) = 7 - (j : Int) - 1 := IntWalk.i64_in _ (by omega)
          have hb := padL_get n j hj8
          obtain ⟨y, hy⟩ : ∃ y, UInt8.ofNat (be8 n j) = y := ⟨_, rfl⟩
          rw [hy] at hb
          have hsh : ∀ W, (Op.shift BinOp.shr IntKind.u64 (x : Int) IntKind.u64 (q : Int)).run Tryz.prog W = .ok (.int .u64 ((x : Int) / 2 ^ q)) W := fun W => run_shrQ x q (by omega) W
          have hnb : IntKind.u8.wrap ((x : Int) / 2 ^ q) = ((y.toNat : Nat) : Int) := by rw [IntKind.wrap_u8', ← hy, be8_num n j x HX.out, ← hq, show 56 - 8 * j = 8 * (7 - j) by omega]
          have hs : G ≤ wr.heap.size := by have := HJ.out.2.size; omega
          have HT : Hid ((padShL n).take (j + 1) = (padShL n).take j ++ [y]) := by unfold Hid; rw [List.take_add_one, hb]; rfl
          clear hb hy hq
          go_wp2_with (at_builtin; refine wpList_apn _ _ rfl rfl rfl G A4 (n + 1 + k + j) c4 (bs ++ (128 :: List.replicate k 0) ++ (padShL n).take j) rfl (HJ.out.1.alloc _) (some ⟨wr.heap.size, 0, none⟩) 1 1 [y] rfl (RN.out wr y) (by omega) (by simp; omega) ?_)
          intro A5 c5 w5 hown5 hg5
          have HN : Hid (OwnB w5 G A5 (n + 1 + k + (j + 1)) c5 (bs ++ (128 :: List.replicate k 0) ++ (padShL n).take (j + 1)) ∧ Below G w w5) := by
            refine ⟨?_, (HJ.out.2.alloc hs _).grown hg5 (by simp; omega) (fun g hg => (HJ.out.1.blk_lt hg).1)⟩
            have e8 : bs ++ (128 :: List.replicate k 0) ++ ((padShL n).take j ++ [y]) = bs ++ 128 :: (List.replicate k 0 ++ ((padShL n).take j ++ [y])) := by simp
            rw [HT.out, e8]
            exact hown5
          clear hown5 hg5 HJ HT
          go_wp2
          go_roundw
          case rel => exact ⟨j + 1, A5, c5, rfl, by go_num, by omega, HN.out⟩
          case measure => simp [intOf]; omega
        · obtain rfl : j = 8 := by omega
          have i1 : ¬ 7 - ((8 : Nat) : Int) ≥ 0 := by omega
          have HF : Hid (OwnB wr G A4 (n + (k + 9)) c4 (bs ++ padB n) ∧ Below G w wr) := by
            refine ⟨?_, HJ.out.2⟩
            have h := HJ.out.1
            rw [List.append_assoc] at h
            unfold padB padP
            rw [HZ.out, show n + (k + 9) = n + 1 + k + 8 by omega]
            simpa using h
          have hlen : n + 1 + k + 8 = n + (k + 9) := by omega
          rw [hlen]
          clear HJ
          go_wp2
          go_ret
          exact ⟨A4, c4, by rw [HZ.out]; rfl, by rw [HZ.out]; exact HF.out.1, HF.out.2⟩
end Go.Proofs.YtcedojmhgmgcgaaGreatDoor
namespace Go.Proofs.YtcedojmhgmgcgaaGreatDoor
open Go.RowKit Go
set_option linter.unusedVariables false
set_option linter.unusedSimpArgs false
set_option maxRecDepth 100000
section
variable (w : World)
/-- Appending one number: the new slice owns what is there then; the old one owns what it owned; and the new one lies where the old one lay, or in a new block. -/
theorem run_app1U (base : Nat) (A0 : Option Addr) (n0 c0 : Nat) (bs : List Nat) (hown : OwnU w base A0 n0 c0 bs)
    (sb : Nat) (c : Nat) (x : Nat) (hx : w.cell? ⟨sb, 0, none⟩ = some (v32 x)) (hlim : n0 + 1 ≤ 1000000) (hbase : base ≤ w.heap.size) :
    ∃ A' c' w', (Builtin.append_ #[101, 101] 101 #[.slice A0 n0 c0, .slice (some ⟨sb, 0, none⟩) 1 c]).run Tryz.prog w = .ok (.slice A' (n0 + 1) c') w' ∧
      OwnU w' base A' (n0 + 1) c' (bs ++ [x]) ∧ OwnU w' base A0 n0 c0 bs ∧ w.grownBy w' (blk A0) ∧ (blk A' = blk A0 ∨ blk A' = some w.heap.size) := by
  obtain ⟨i, hi, hz0, hz1, hz2⟩ := info_parts u32_row.info
  have hlen := OwnU.len hown
  have hnews : ∀ j u, [v32 x][j]? = some u → w.cell? ((⟨sb, 0, none⟩ : Addr).add j) = some u := by
    intro j u hj
    match j, hj with
    | 0, hj => simp at hj; subst hj; simpa [Addr.add] using hx
  by_cases hroom : n0 + 1 ≤ c0
  · rcases hown.2 with ⟨hv, hn⟩ | ⟨g, cap, cur, hv, hb, hh, hle, hm, hcs, htk⟩
    · injection hv with _ _ h3; omega
    · injection hv with h1 _ h3
      subst h1; subst h3
      simp only [Nat.mul_one] at hcs htk
      have hr := run_append_room (P := Tryz.prog) w 101 101 26 i Tryz.underlying101 hi g n0 c0 cur hh ⟨sb, 0, none⟩ 1 c [v32 x] (by rw [hz1]; rfl) hnews (by intro u hu; simp at hu; subst hu; rfl) hroom (by rw [hz1, hcs]; simp; omega)
      rw [hz1] at hr
      simp only [Nat.mul_one, List.length_singleton] at hr
      have hl : cur.toList.length = c0 := by simpa using hcs
      have hsz : (cur.toList.take n0 ++ [v32 x] ++ cur.toList.drop (n0 + 1)).length = c0 := by
        simp only [List.length_append, List.length_take, List.length_drop, hl, List.length_singleton]; omega
      have hh' := setRow_heap w g cur (cur.toList.take n0 ++ [v32 x] ++ cur.toList.drop (n0 + 1)).toArray _ _ hh
      have htk1 : (cur.toList.take n0 ++ [v32 x] ++ cur.toList.drop (n0 + 1)).take n0 = bs.map v32 := by
        rw [List.append_assoc, List.take_append_of_le_length (by rw [List.length_take, hl]; omega), List.take_take, Nat.min_self, htk]
      have htk2 : (cur.toList.take n0 ++ [v32 x] ++ cur.toList.drop (n0 + 1)).take (n0 + 1) = (bs ++ [x]).map v32 := by
        rw [List.take_append_of_le_length (by rw [List.length_append, List.length_take, hl, List.length_singleton]; omega), List.take_of_length_le (by rw [List.length_append, List.length_take, hl, List.length_singleton]; omega), htk, List.map_append]; rfl
      refine ⟨_, _, _, hr, ⟨by simp [hlen], .inr ⟨g, c0, _, rfl, hb, hh', hroom, hm, by simpa using hsz, by simpa using htk2⟩⟩,
        ⟨hown.1, .inr ⟨g, c0, _, rfl, hb, hh', hle, hm, by simpa using hsz, by simpa using htk1⟩⟩, ⟨rfl, rfl, rfl, by simp [World.setRow], fun k _ hk => setRow_other w g k _ (fun e => hk (by rw [e]; rfl))⟩, .inl rfl⟩
  · -- it grows
    have hgrow : ∃ c' W', (Builtin.append_ #[101, 101] 101 #[.slice A0 n0 c0, .slice (some ⟨sb, 0, none⟩) 1 c]).run Tryz.prog w = .ok (.slice (some ⟨w.heap.size, 0, none⟩) (n0 + 1) c') W' ∧ OwnU W' base (some ⟨w.heap.size, 0, none⟩) (n0 + 1) c' (bs ++ [x]) ∧ w.grownBy W' none := by
      have hge := grownCap_ge w (n0 + 1) c0 26
      have hcm : grownCap w (n0 + 1) c0 26 ≤ maxLen := grownCap_le_maxLen w (n0 + 1) c0 26 (by unfold maxLen; omega)
      have hr : (Builtin.append_ #[101, 101] 101 #[.slice A0 n0 c0, .slice (some ⟨sb, 0, none⟩) 1 c]).run Tryz.prog w = .ok (.slice (some ⟨w.heap.size, 0, none⟩) (n0 + 1) (grownCap w (n0 + 1) c0 26))
          (w.drew.alloc (.cells ((bs.map v32).toArray ++ [v32 x].toArray ++ Builtin.zeroCells (Value.int .u32 0).cells (grownCap w (n0 + 1) c0 26 - (n0 + 1))) 26)) := by
        rcases hown.2 with ⟨hv, hn⟩ | ⟨g, cap, cur, hv, hb, hh, hle, hm, hcs, htk⟩
        · injection hv with h1 h2 h3
          subst h1; subst h2; subst h3
          have hbs : bs = [] := List.eq_nil_of_length_eq_zero hlen
          subst hbs
          have := run_append_nil (P := Tryz.prog) w 101 101 26 i (.int .u32 0) Tryz.underlying101 hi hz0 ⟨sb, 0, none⟩ 1 c [v32 x] (by rw [hz1]; rfl) hnews (by omega) (by omega) (by rw [hz2]; omega)
          simpa using this
        · injection hv with h1 h2 h3
          subst h1; subst h3
          have holds : ∀ j v, (bs.map v32)[j]? = some v → w.cell? ((⟨g, 0, none⟩ : Addr).add j) = some v := World.ownsRow.cells (v := .slice (some ⟨g, 0, none⟩) n0 c0) hown rfl
          exact run_append_grow (P := Tryz.prog) w 101 101 26 i (.int .u32 0) Tryz.underlying101 hi hz0 ⟨g, 0, none⟩ n0 c0 (bs.map v32) (by rw [hz1, List.length_map, hlen, Nat.mul_one]) holds ⟨sb, 0, none⟩ 1 c [v32 x] (by rw [hz1]; rfl) hnews (by omega) (by omega) (growslice_fits (by omega) (by rw [hz2]; omega))
      refine ⟨_, _, hr, ⟨by simp [hlen], .inr ⟨w.heap.size, _, _, rfl, hbase, heap_alloc_new w.drew _, hge, hcm, ?_, ?_⟩⟩, ⟨rfl, rfl, rfl, by simp, fun k hk _ => Below.heap_alloc w.drew _ k hk⟩⟩
      · simp only [Array.size_append, List.size_toArray, List.length_map, List.length_singleton, hlen, size_zeroCells]
        show n0 + 1 + (_ - (n0 + 1)) * 1 = _ * 1
        omega
      · simp only [Array.toList_append, List.append_assoc, Nat.mul_one]
        rw [← List.append_assoc, List.take_append_of_le_length (by rw [List.length_append, List.length_map, List.length_singleton, hlen]; omega), List.take_of_length_le (by rw [List.length_append, List.length_map, List.length_singleton, hlen]; omega), List.map_append]
        rfl
    obtain ⟨c', W', hr, h1, h2⟩ := hgrow
    refine ⟨_, _, _, hr, h1, OwnR.kept hown h2 (by cases blk A0 <;> simp), ⟨h2.os, h2.tape, h2.output, h2.size, fun k hk _ => h2.block k hk (by simp)⟩, .inr rfl⟩
end
theorem step_appU {w : World} {ops : Array Oper} {o : Oper} {a : Act} {K : Act → World → Prop} {Q : Exit → Act → World → Prop} {E : Prop} (hgd : o.guard = none) (hty : o.type = 101) (sOp xOp : Operand)
    (ho : o.op = .call { callee := .builtin .append, args := #[sOp, xOp], argTypes := #[101, 101] })
    (base : Nat) (V : Option Addr) (m c0 : Nat) (l : List Nat) (hs : a.eval sOp = .slice V m c0) (hown : OwnU w base V m c0 l)
    (sb c : Nat) (x : Nat) (hx : a.eval xOp = .slice (some ⟨sb, 0, none⟩) 1 c) (hq : w.cell? ⟨sb, 0, none⟩ = some (v32 x))
    (hlim : m + 1 ≤ 1000000) (hbase : base ≤ w.heap.size)
    (h : ∀ A' c' w', OwnU w' base A' (m + 1) c' (l ++ [x]) → OwnU w' base V m c0 l → w.grownBy w' (blk V) → K (a.put o.dst (.slice A' (m + 1) c')) w') :
    if Region.wanted o (yielded ops a.tmps) = true then Oper.wp Tryz.prog o a w K Q else E := by
  have hw : Region.wanted o (yielded ops a.tmps) = true := by simp [Region.wanted, hgd]
  rw [if_pos hw]
  obtain ⟨A', c', w', hrun, h2, h3, h4, h5⟩ := run_app1U w base V m c0 l hown sb c x hq hlim hbase
  unfold Oper.wp execOp
  simp only [ho, resolve, invoke, builtin, Sem.run_bind, Sem.run_pure, Result.andThen_ok, List.map_toArray, List.map_cons, List.map_nil, hs, hx, hty, hrun]
  exact h A' c' w' h2 h3 h4
theorem grown_below {v w w' : World} {G : Nat} {A : Option Addr} {n c : Nat} {l : List Nat} (hb : Below G v w) (h : OwnU w G A n c l) (hs : G ≤ w.heap.size) (hg : w.grownBy w' (blk A)) : Below G v w' := hb.grown hg hs (fun g hg => (OwnR.blk_lt h hg).1)
theorem kp_drew' {G : Nat} {v w : World} (h : Below G v w) : Below G v w.drew := h.drew
set_option maxHeartbeats 8000000 in
theorem dschedule_any (A : Option Addr) (n c : Nat) (bs : List UInt8) (w : World) (h : RB w A n bs) (hn : n = 64) :
    Calls Tryz.prog 70 #[.slice A n c] w fun e w' => ∃ A' c', e = .returned (.slice A' 64 c') ∧ OwnU w' w.heap.size A' 64 c' (schW (bs.map UInt8.toNat)) ∧ Below w.heap.size w w' := by
  obtain ⟨G, hG⟩ : ∃ G, w.heap.size = G := ⟨_, rfl⟩
  obtain ⟨b, off, q0, rfl, hb, _, _⟩ := h.at_ (k := 0) (by omega)
  have HG := Lib.hid hG
  have hcell : ∀ W, Below G w W → ∀ j, j < 64 → W.cell? ⟨b, off + j, none⟩ = some (v8 ((bs.map UInt8.toNat).getD j 0)) := fun W hW j hj => by
    obtain ⟨b', off', q, e, hb', hq, hc⟩ := h.at_ (k := j) (by omega)
    injection e with e
    injection e with e1 e2
    subst e1; subst e2
    rw [(hW.cell (p := ⟨b, off + j, none⟩) (by rw [← hG]; exact hb)).trans hc, List.getD_eq_getElem?_getD, List.getElem?_map, hq]
    rfl
  obtain ⟨bn, hbn⟩ : ∃ bn, bs.map UInt8.toNat = bn := ⟨_, rfl⟩
  have hbl : ∀ i, bn.getD i 0 < 256 := by rw [← hbn]; exact getD_ltSh _ 256 (by decide) (fun x hx => by obtain ⟨y, _, rfl⟩ := List.mem_map.1 hx; exact y.toNat_lt)
  have hbl2 : ∀ x ∈ bn, x < 256 := by rw [← hbn]; exact fun x hx => by obtain ⟨y, _, rfl⟩ := List.mem_map.1 hx; exact y.toNat_lt
  rw [hbn] at hcell ⊢
  have HC := Lib.hid hcell
  have HBG := Lib.hid hbl
  have HF : Hid (∀ x ∈ firstW bn 16, x < 4294967296) := firstW_lt bn hbl2 16
  have HN64 := Lib.hid hn
  clear h hbn hbl hbl2 hcell hb hn
  go_enter Tryz.func70, Tryz.ntmps70
  go_wp2_with fail
  go_loopw [3, 4] (fun vl vi wl => ∃ (k : Nat) (A2 : Option Addr) (c2 : Nat), vl = .slice A2 k c2 ∧ vi = .int .i64 (k : Int) ∧ k ≤ 16 ∧ Hid (OwnU wl G A2 k c2 (firstW bn k) ∧ Below G w wl)) (fun _ vi _ => 16 - (intOf vi).toNat)
  case atStart => exact ⟨0, none, 0, rfl, rfl, Nat.zero_le _, OwnR.nil _ _ _ _, by rw [← hG]; exact Below.refl _ _⟩
  case round =>
    obtain ⟨k, A2, c2, rfl, rfl, hk, HK⟩ := hrel
    by_cases hlt : k < 16
    · as_aux_lemma =>
      obtain ⟨ho, hbw⟩ := HK.out
      obtain ⟨b0, hb0⟩ : ∃ x, bn.getD (4 * k) 0 = x := ⟨_, rfl⟩
      obtain ⟨b1, hb1⟩ : ∃ x, bn.getD (4 * k + 1) 0 = x := ⟨_, rfl⟩
      obtain ⟨b2, hb2⟩ : ∃ x, bn.getD (4 * k + 2) 0 = x := ⟨_, rfl⟩
      obtain ⟨b3, hb3⟩ : ∃ x, bn.getD (4 * k + 3) 0 = x := ⟨_, rfl⟩
      obtain ⟨m0, hm0⟩ : ∃ m, 4 * k = m := ⟨_, rfl⟩
      obtain ⟨m1, hm1⟩ : ∃ m, m0 + 1 = m := ⟨_, rfl⟩
      obtain ⟨m2, hm2⟩ : ∃ m, m0 + 2 = m := ⟨_, rfl⟩
      obtain ⟨m3, hm3⟩ : ∃ m, m0 + 3 = m := ⟨_, rfl⟩
      have KF : Hid (∀ W, Below G w W → W.cell? ⟨b, off + m0, none⟩ = some (.int .u8 (b0 : Int)) ∧ W.cell? ⟨b, off + m1, none⟩ = some (.int .u8 (b1 : Int)) ∧ W.cell? ⟨b, off + m2, none⟩ = some (.int .u8 (b2 : Int)) ∧ W.cell? ⟨b, off + m3, none⟩ = some (.int .u8 (b3 : Int))) := by
        intro W hW
        rw [← hm1, ← hm2, ← hm3, ← hm0, ← hb0, ← hb1, ← hb2, ← hb3]
        exact ⟨HC.out W hW _ (by omega), HC.out W hW _ (by omega), HC.out W hW _ (by omega), HC.out W hW _ (by omega)⟩
      have l0 : b0 < 256 := by rw [← hb0]; exact HBG.out _
      have l1 : b1 < 256 := by rw [← hb1]; exact HBG.out _
      have l2 : b2 < 256 := by rw [← hb2]; exact HBG.out _
      have l3 : b3 < 256 := by rw [← hb3]; exact HBG.out _
      have hbe := be32_bits b0 b1 b2 b3 l0 l1 l2 l3
      obtain ⟨z, hz⟩ : ∃ z, be32 b0 b1 b2 b3 = z := ⟨_, rfl⟩
      rw [hz] at hbe
      have HFN : Hid (firstW bn (k + 1) = firstW bn k ++ [z]) := by unfold Hid; rw [← hz, ← hb0, ← hb1, ← hb2, ← hb3]; rfl
      have x0 : 4 * (k : Int) = (m0 : Int) := by omega
      have x1 : (m0 : Int) + 1 = (m1 : Int) := by omega
      have x2 : (m0 : Int) + 2 = (m2 : Int) := by omega
      have x3 : (m0 : Int) + 3 = (m3 : Int) := by omega
      have s0 : IntKind.i64.wrap (4 * (k : Int)) = (m0 : Int) := by rw [IntKind.wrap_i64]; omega
      have s1 : IntKind.i64.wrap ((m0 : Int) + 1) = (m1 : Int) := by rw [IntKind.wrap_i64]; omega
      have s2 : IntKind.i64.wrap ((m0 : Int) + 2) = (m2 : Int) := by rw [IntKind.wrap_i64]; omega
      have s3 : IntKind.i64.wrap ((m0 : Int) + 3) = (m3 : Int) := by rw [IntKind.wrap_i64]; omega
      have i0 : (m0 : Int) < (n : Int) := by have := HN64.out; omega
      have i1 : (m1 : Int) < (n : Int) := by have := HN64.out; omega
      have i2 : (m2 : Int) < (n : Int) := by have := HN64.out; omega
      have i3 : (m3 : Int) < (n : Int) := by have := HN64.out; omega
      have i4 : (k : Int) < 16 := by omega
      have u0 : IntKind.u32.wrap (b0 : Int) = (b0 : Int) := by rw [IntKind.wrap_u32]; omega
      have u1 : IntKind.u32.wrap (b1 : Int) = (b1 : Int) := by rw [IntKind.wrap_u32]; omega
      have u2 : IntKind.u32.wrap (b2 : Int) = (b2 : Int) := by rw [IntKind.wrap_u32]; omega
      have u3 : IntKind.u32.wrap (b3 : Int) = (b3 : Int) := by rw [IntKind.wrap_u32]; omega
      have y0 : IntKind.u32.wrap ((b0 : Int) * 16777216) = (b0 : Int) * 16777216 := by rw [IntKind.wrap_u32]; omega
      have y1 : IntKind.u32.wrap ((b1 : Int) * 65536) = (b1 : Int) * 65536 := by rw [IntKind.wrap_u32]; omega
      have y2 : IntKind.u32.wrap ((b2 : Int) * 256) = (b2 : Int) * 256 := by rw [IntKind.wrap_u32]; omega
      have v0 : IntKind.i64.wrap (m0 : Int) = (m0 : Int) := by rw [IntKind.wrap_i64]; omega
      have v1 : IntKind.i64.wrap (m1 : Int) = (m1 : Int) := by rw [IntKind.wrap_i64]; omega
      have v2 : IntKind.i64.wrap (m2 : Int) = (m2 : Int) := by rw [IntKind.wrap_i64]; omega
      have v3 : IntKind.i64.wrap (m3 : Int) = (m3 : Int) := by rw [IntKind.wrap_i64]; omega
      have j0 : m0 < n := by have := HN64.out; omega
      have j1 : m1 < n := by have := HN64.out; omega
      have j2 : m2 < n := by have := HN64.out; omega
      have j3 : m3 < n := by have := HN64.out; omega
      have p0 : (0 : Int) ≤ (m0 : Int) := by omega
      have p1 : (0 : Int) ≤ (m1 : Int) := by omega
      have p2 : (0 : Int) ≤ (m2 : Int) := by omega
      have p3 : (0 : Int) ≤ (m3 : Int) := by omega
      have e1 : IntKind.i64.wrap ((k : Int) + 1) = (k : Int) + 1 := IntWalk.i64_in _ (by omega)
      have hs : G ≤ wr.heap.size := by have := hbw.size; omega
      obtain ⟨d0, d1, d2, d3⟩ := KF.out _ hbw
      obtain ⟨f0, f1, f2, f3⟩ := KF.out _ (hbw.alloc hs (.cells #[.int .u32 (z : Int)] 26))
      have HO := Lib.hid ho
      have HBW := Lib.hid hbw
      clear hb0 hb1 hb2 hb3 hz hm0 hm1 hm2 hm3 HK ho hbw
      go_wp2_with fail
      go_region_held3 (fun W => W.cell? ⟨b, off + m0, none⟩ = some (.int .u8 (b0 : Int)) ∧ W.cell? ⟨b, off + m1, none⟩ = some (.int .u8 (b1 : Int)) ∧ W.cell? ⟨b, off + m2, none⟩ = some (.int .u8 (b2 : Int)) ∧ W.cell? ⟨b, off + m3, none⟩ = some (.int .u8 (b3 : Int)))
        (first | exact ⟨d0, d1, d2, d3⟩ | exact ⟨f0, f1, f2, f3⟩ | exact ⟨g0, g1, g2, g3⟩)
        ((refine step_appU (by rfl) (by rfl) _ _ (by rfl) G A2 k c2 (firstW bn k) (by rfl) ((OwnR.alloc HO.out _).drew) wr.heap.size 1 z (by rfl) (cell_of_row _ wr.heap.size 0 #[.int .u32 (z : Int)] 26 (0, 0) (heap_alloc_new _ _)) (by omega) (by simp; omega) ?_; intro A9 c3 w3 ho3 ho4 hg3; have HB3 : Hid (Below G w w3) := grown_below (kp_drew' (HBW.out.alloc hs _)) ((OwnR.alloc HO.out _).drew) (by simp; omega) hg3; have HO3 : Hid (OwnU w3 G A9 (k + 1) c3 (firstW bn (k + 1))) := (by rw [HFN.out]; exact ho3); obtain ⟨g0, g1, g2, g3⟩ := KF.out _ HB3.out; clear ho3 ho4 hg3))
      all_goals
        have HN : Hid (OwnU w3 G A9 (k + 1) c3 (firstW bn (k + 1)) ∧ Below G w w3) := ⟨HO3.out, HB3.out⟩
        clear hbe u0 u1 u2 u3 y0 y1 y2 v0 v1 v2 v3 s0 s1 s2 s3 x0 x1 x2 x3 d0 d1 d2 d3 f0 f1 f2 f3 g0 g1 g2 g3
        go_wp2
        go_roundw
        case rel => exact ⟨k + 1, A9, c3, rfl, by go_num, by omega, HN.out⟩
        case measure => simp [intOf]; omega
    · as_aux_lemma =>
      obtain rfl : k = 16 := by omega
      have i1 : ¬ ((16 : Nat) : Int) < 16 := by omega
      have H3 : Hid (OwnU wr G A2 16 c2 (restW (firstW bn 16) 0) ∧ Below G w wr) := HK.out
      clear HK
      go_wp2_with fail
      go_loopw [3, 5] (fun vl vt wl => ∃ (t : Nat) (A3 : Option Addr) (c3 : Nat), vl = .slice A3 t c3 ∧ vt = .int .i64 (t : Int) ∧ 16 ≤ t ∧ t ≤ 64 ∧ Hid (OwnU wl G A3 t c3 (restW (firstW bn 16) (t - 16)) ∧ Below G w wl)) (fun _ vt _ => 64 - (intOf vt).toNat)
      case atStart => exact ⟨16, A2, c2, rfl, rfl, Nat.le_refl _, by omega, H3.out⟩
      case round =>
        obtain ⟨t, A3, c3, rfl, rfl, ht1, ht2, HK⟩ := hrel
        clear H3
        by_cases hlt : t < 64
        · as_aux_lemma =>
          obtain ⟨q, hq⟩ : ∃ q, t - 16 = q := ⟨_, rfl⟩
          obtain ⟨ho, hbw⟩ := HK.out
          rw [hq] at ho
          obtain ⟨l, hl⟩ : ∃ l, restW (firstW bn 16) q = l := ⟨_, rfl⟩
          have hll : l.length = t := by rw [← hl, restW_len, firstW_len]; omega
          have hlb := restW_lt (firstW bn 16) HF.out q
          rw [hl] at ho hlb
          obtain ⟨g, rfl, hg1, hg2⟩ := OwnR.shape ho (by have := (OwnR.cap ho).1; omega)
          have gl := getD_ltSh l 4294967296 (by decide) hlb
          have gat : ∀ i, i < t → l[i]? = some (l.getD i 0) := fun i hi => by rw [List.getD_eq_getElem?_getD, List.getElem?_eq_getElem (by omega)]; rfl
          obtain ⟨x16, hx16⟩ : ∃ z, l.getD q 0 = z := ⟨_, rfl⟩
          obtain ⟨x15, hx15⟩ : ∃ z, l.getD (q + 1) 0 = z := ⟨_, rfl⟩
          obtain ⟨x7, hx7⟩ : ∃ z, l.getD (q + 9) 0 = z := ⟨_, rfl⟩
          obtain ⟨x2, hx2⟩ : ∃ z, l.getD (q + 14) 0 = z := ⟨_, rfl⟩
          have l16 : x16 < 4294967296 := by rw [← hx16]; exact gl _
          have l15 : x15 < 4294967296 := by rw [← hx15]; exact gl _
          have l7 : x7 < 4294967296 := by rw [← hx7]; exact gl _
          have l2 : x2 < 4294967296 := by rw [← hx2]; exact gl _
          obtain ⟨q1, hq1⟩ : ∃ z, q + 1 = z := ⟨_, rfl⟩
          obtain ⟨q9, hq9⟩ : ∃ z, q + 9 = z := ⟨_, rfl⟩
          obtain ⟨q14, hq14⟩ : ∃ z, q + 14 = z := ⟨_, rfl⟩
          have KF : Hid (∀ W, OwnU W G (some ⟨g, 0, none⟩) t c3 l → W.cell? ⟨g, q, none⟩ = some (.int .u32 (x16 : Int)) ∧ W.cell? ⟨g, q9, none⟩ = some (.int .u32 (x7 : Int)) ∧ W.cell? ⟨g, q1, none⟩ = some (.int .u32 (x15 : Int)) ∧ W.cell? ⟨g, q14, none⟩ = some (.int .u32 (x2 : Int))) := by
            intro W hW
            rw [← hq1, ← hq9, ← hq14, ← hx16, ← hx15, ← hx7, ← hx2]
            exact ⟨hW.cellAt _ _ (gat _ (by omega)), hW.cellAt _ _ (gat _ (by omega)), hW.cellAt _ _ (gat _ (by omega)), hW.cellAt _ _ (gat _ (by omega))⟩
          obtain ⟨z, hz⟩ : ∃ z, nxtW x16 x15 x7 x2 = z := ⟨_, rfl⟩
          have HLN : Hid (restW (firstW bn 16) (t + 1 - 16) = l ++ [z]) := by
            unfold Hid
            rw [show t + 1 - 16 = q + 1 by omega, ← hz, ← hx16, ← hx15, ← hx7, ← hx2, ← hl]
            rfl
          obtain ⟨g0, hg0⟩ : ∃ z, sg0 x15 = z := ⟨_, rfl⟩
          obtain ⟨g1, hg1'⟩ : ∃ z, sg1 x2 = z := ⟨_, rfl⟩
          have b0 := sg0_bits x15 l15
          have b1 := sg1_bits x2 l2
          have lg0 := sg0_lt x15 l15
          have lg1 := sg1_lt x2 l2
          rw [hg0] at b0 lg0
          rw [hg1'] at b1 lg1
          have hz2 : (((x16 + g0) % 4294967296 + x7) % 4294967296 + g1) % 4294967296 = z := by rw [← hz, ← hg0, ← hg1']; rfl
          have R7 := Lib.hid (fun W => rt_7 x15 l15 W)
          have R18 := Lib.hid (fun W => rt_18 x15 l15 W)
          have R17 := Lib.hid (fun W => rt_17 x2 l2 W)
          have R19 := Lib.hid (fun W => rt_19 x2 l2 W)
          obtain ⟨o7, ho7⟩ : ∃ z, rotr x15 7 = z := ⟨_, rfl⟩
          obtain ⟨o18, ho18⟩ : ∃ z, rotr x15 18 = z := ⟨_, rfl⟩
          obtain ⟨o17, ho17⟩ : ∃ z, rotr x2 17 = z := ⟨_, rfl⟩
          obtain ⟨o19, ho19⟩ : ∃ z, rotr x2 19 = z := ⟨_, rfl⟩
          rw [ho7] at R7 b0
          rw [ho18] at R18 b0
          rw [ho17] at R17 b1
          rw [ho19] at R19 b1
          obtain ⟨za, hza⟩ : ∃ z, (x16 + g0) % 4294967296 = z := ⟨_, rfl⟩
          obtain ⟨zb, hzb⟩ : ∃ z, (za + x7) % 4294967296 = z := ⟨_, rfl⟩
          rw [hza, hzb] at hz2
          have wa : IntKind.u32.wrap ((x16 : Int) + (g0 : Int)) = (za : Int) := by rw [IntKind.wrap_u32]; omega
          have wb : IntKind.u32.wrap ((za : Int) + (x7 : Int)) = (zb : Int) := by rw [IntKind.wrap_u32]; omega
          have wc : IntKind.u32.wrap ((zb : Int) + (g1 : Int)) = (z : Int) := by rw [IntKind.wrap_u32]; omega
          have wa2 : ((x16 : Int) + (g0 : Int)) % 4294967296 = (za : Int) := by omega
          have wb2 : ((za : Int) + (x7 : Int)) % 4294967296 = (zb : Int) := by omega
          have wc2 : ((zb : Int) + (g1 : Int)) % 4294967296 = (z : Int) := by omega
          have t16 : (t : Int) - 16 = (q : Int) := by omega
          have t15 : (t : Int) - 15 = (q1 : Int) := by omega
          have t7 : (t : Int) - 7 = (q9 : Int) := by omega
          have t2 : (t : Int) - 2 = (q14 : Int) := by omega
          have n1 : (q : Int) < (t : Int) := by omega
          have n2 : (q1 : Int) < (t : Int) := by omega
          have n3 : (q9 : Int) < (t : Int) := by omega
          have n4 : (q14 : Int) < (t : Int) := by omega
          have p1 : (0 : Int) ≤ (q : Int) := by omega
          have p2 : (0 : Int) ≤ (q9 : Int) := by omega
          have i2 : (t : Int) < 64 := by omega
          have v1 : IntKind.i64.wrap (q : Int) = (q : Int) := by rw [IntKind.wrap_i64]; omega
          have v2 : IntKind.i64.wrap (q1 : Int) = (q1 : Int) := by rw [IntKind.wrap_i64]; omega
          have v3 : IntKind.i64.wrap (q9 : Int) = (q9 : Int) := by rw [IntKind.wrap_i64]; omega
          have v4 : IntKind.i64.wrap (q14 : Int) = (q14 : Int) := by rw [IntKind.wrap_i64]; omega
          have e1 : IntKind.i64.wrap ((t : Int) + 1) = (t : Int) + 1 := IntWalk.i64_in _ (by omega)
          have hs : G ≤ wr.heap.size := by have := hbw.size; omega
          have HO := Lib.hid ho
          have HBW := Lib.hid hbw
          obtain ⟨c16, c7, c15, c2⟩ := KF.out wr ho
          obtain ⟨d16, d7, _, _⟩ := KF.out (wr.alloc (.cells #[.int .u32 (z : Int)] 26)) (OwnR.alloc ho _)
          clear hq hl hll hlb gl gat hx16 hx15 hx7 hx2 hz hg0 hg1' hz2 ho7 ho18 ho17 ho19 hza hzb hq1 hq9 hq14 ho hbw HK hg1 hg2
          go_wp2_with fail
          clear c15 c2 t15 t2
          go_region_held3 (fun W => W.cell? ⟨g, q, none⟩ = some (.int .u32 (x16 : Int)) ∧ W.cell? ⟨g, q9, none⟩ = some (.int .u32 (x7 : Int)))
            (first | exact ⟨c16, c7⟩ | exact ⟨d16, d7⟩ | exact ⟨y16, y7⟩)
            (first
              | (go_at_call 71; (with_reducible refine (R7.out _).mono ?_); (rintro e w3 ⟨rfl, rfl⟩))
              | (go_at_call 71; (with_reducible refine (R18.out _).mono ?_); (rintro e w3 ⟨rfl, rfl⟩))
              | (go_at_call 71; (with_reducible refine (R17.out _).mono ?_); (rintro e w3 ⟨rfl, rfl⟩))
              | (go_at_call 71; (with_reducible refine (R19.out _).mono ?_); (rintro e w3 ⟨rfl, rfl⟩))
              | (refine step_appU (by rfl) (by rfl) _ _ (by rfl) G (some ⟨g, 0, none⟩) t c3 l (by rfl) ((OwnR.alloc HO.out _).drew) wr.heap.size 1 z (by rfl) (cell_of_row _ wr.heap.size 0 #[.int .u32 (z : Int)] 26 (0, 0) (heap_alloc_new _ _)) (by omega) (by simp; omega) ?_; intro A9 c9 w9 ho3 ho4 hg3; have HB3 : Hid (Below G w w9) := grown_below (kp_drew' (HBW.out.alloc hs _)) ((OwnR.alloc HO.out _).drew) (by simp; omega) hg3; have HO3 : Hid (OwnU w9 G A9 (t + 1) c9 (restW (firstW bn 16) (t + 1 - 16))) := (by rw [HLN.out]; exact ho3); obtain ⟨y16, y7, _, _⟩ := KF.out w9 ho4; clear ho3 ho4 hg3))
          all_goals
            have HN : Hid (OwnU w9 G A9 (t + 1) c9 (restW (firstW bn 16) (t + 1 - 16)) ∧ Below G w w9) := ⟨HO3.out, HB3.out⟩
            clear b0 b1 wa wb wc wa2 wb2 wc2 t16 t7 v1 v2 v3 v4 c16 c7 d16 d7 y16 y7
            go_wp2
            go_roundw
            case rel => exact ⟨t + 1, A9, c9, rfl, by go_num, by omega, by omega, HN.out⟩
            case measure => simp [intOf]; omega
        · as_aux_lemma =>
          obtain rfl : t = 64 := by omega
          have i2 : ¬ ((64 : Nat) : Int) < 64 := by omega
          go_wp2
          go_ret
          exact ⟨A3, c3, rfl, HK.out.1, HK.out.2⟩
end Go.Proofs.YtcedojmhgmgcgaaGreatDoor
