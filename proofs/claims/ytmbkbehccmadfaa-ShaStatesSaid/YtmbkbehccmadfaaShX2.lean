/-
  sha: the document's product of numbers of limbs.
-/
import Derived.Test.YtmbkbehccmadfaaShX1
namespace Go.Proofs.Ytmbkbehccmadfaa
open Go.RowKit Go
set_option linter.unusedVariables false
set_option linter.unusedSimpArgs false
set_option maxRecDepth 100000
/-- One limb times many, put into what is there. -/
def tIn (a : Nat) (ys : List Nat) (i : Nat) : Nat → List Nat → List Nat × Nat
  | 0, out => (out, 0)
  | k + 1, out =>
    let p := tIn a ys i k out
    let x := (a * ys.getD k 0 + p.1.getD (i + k) 0 + p.2) % 18446744073709551616
    (p.1.set (i + k) (x % 4294967296), x / 4294967296)
def tOut (xs ys : List Nat) : Nat → List Nat
  | 0 => List.replicate (xs.length + ys.length) 0
  | i + 1 =>
    let p := tIn (xs.getD i 0) ys i ys.length (tOut xs ys i)
    p.1.set (i + ys.length) (p.2 % 4294967296)
def timesQ (xs ys : List Nat) : List Nat := tOut xs ys xs.length
theorem set_lt {l : List Nat} {j y : Nat} (h : ∀ x ∈ l, x < 4294967296) (hy : y < 4294967296) : ∀ x ∈ l.set j y, x < 4294967296 := by
  intro x hx
  rcases List.mem_or_eq_of_mem_set hx with h1 | h1
  · exact h x h1
  · rw [h1]; exact hy
theorem tIn_ok (a : Nat) (ys : List Nat) (i : Nat) : ∀ (k : Nat) (out : List Nat), (∀ x ∈ out, x < 4294967296) → (tIn a ys i k out).1.length = out.length ∧ (∀ x ∈ (tIn a ys i k out).1, x < 4294967296) ∧ (tIn a ys i k out).2 < 4294967296
  | 0, out, h => ⟨rfl, h, by show 0 < 4294967296; decide⟩
  | k + 1, out, h => by
    obtain ⟨h1, h2, h3⟩ := tIn_ok a ys i k out h
    refine ⟨by simp only [tIn, List.length_set]; exact h1, set_lt h2 (Nat.mod_lt _ (by decide)), ?_⟩
    simp only [tIn]
    omega
theorem tOut_ok (xs ys : List Nat) : ∀ i, (tOut xs ys i).length = xs.length + ys.length ∧ (∀ x ∈ tOut xs ys i, x < 4294967296)
  | 0 => ⟨by simp [tOut], fun x hx => by rw [(List.mem_replicate.1 hx).2]; decide⟩
  | i + 1 => by
    obtain ⟨h1, h2⟩ := tOut_ok xs ys i
    obtain ⟨h3, h4, h5⟩ := tIn_ok (xs.getD i 0) ys i ys.length (tOut xs ys i) h2
    refine ⟨by simp only [tOut, List.length_set]; rw [h3, h1], set_lt h4 (Nat.mod_lt _ (by decide))⟩
theorem getD_of {l : List Nat} {j x : Nat} (h : l[j]? = some x) : l.getD j 0 = x := by rw [List.getD_eq_getElem?_getD, h]; rfl
theorem at_of {l : List Nat} {j : Nat} (h : j < l.length) : ∃ x, l[j]? = some x ∧ l.getD j 0 = x := ⟨l[j], List.getElem?_eq_getElem h, getD_of (List.getElem?_eq_getElem h)⟩
set_option maxHeartbeats 8000000 in
theorem times_any (A B : Option Addr) (la ca lb cb : Nat) (xs ys : List Nat) (w : World) (hA : ReadR w A (xs.map v32)) (hB : ReadR w B (ys.map v32)) (ha : xs.length = la) (hb : ys.length = lb) (hal : ∀ x ∈ xs, x < 4294967296) (hbl : ∀ x ∈ ys, x < 4294967296) (hl : la ≤ 1000) (hl2 : lb ≤ 1000) (hp : 0 < la) :
    Calls Try.prog 39 #[.slice A la ca, .slice B lb cb] w fun e w' => e = .returned (.slice (some ⟨w.heap.size, 0, none⟩) (la + lb) (la + lb)) ∧ OwnU w' w.heap.size (some ⟨w.heap.size, 0, none⟩) (la + lb) (la + lb) (timesQ xs ys) ∧ Below w.heap.size w w' := by
  have HAL := Lib.hid hal
  have HBL := Lib.hid hbl
  have HA := Lib.hid hA
  have HB := Lib.hid hB
  have HLA := Lib.hid ha
  have HLB := Lib.hid hb
  clear hal hbl hA hB ha hb
  obtain ⟨G, hG⟩ : ∃ G, w.heap.size = G := ⟨_, rfl⟩
  have HG := Lib.hid hG
  have e1 : IntKind.i64.wrap ((la : Int) + (lb : Int)) = (la : Int) + (lb : Int) := IntWalk.i64_in _ (by omega)
  go_enter Try.func39, Try.ntmps39
  go_wp2_with (refine wpList_mkR u32_row _ _ rfl rfl _ _ _ _ (la + lb) rfl rfl (by omega) (by omega) (by unfold maxLen; omega) (by omega) ?_)
  intro w1 hown1 hg1
  rw [toList_madeCells_one] at hown1
  have hown2 : OwnU w1 G (some ⟨G, 0, none⟩) (la + lb) (la + lb) (List.replicate (la + lb) 0) := by
    unfold OwnU
    rw [List.map_replicate]
    exact hown1
  have H1 : Hid (OwnU w1 G (some ⟨G, 0, none⟩) (la + lb) (la + lb) (tOut xs ys 0) ∧ Below G w w1) := by
    rw [← hG]
    refine ⟨?_, (Below.refl _ _).grown hg1 (Nat.le_refl _) (by intro g hg; cases hg)⟩
    unfold tOut
    rw [HLA.out, HLB.out, hG]
    exact hown2
  clear hown1 hown2 hg1
  clear e1
  go_wp2_with fail
  go_loopw [6] (fun vi wl => ∃ i : Nat, vi = .int .i64 (i : Int) ∧ i ≤ la ∧ Hid (OwnU wl G (some ⟨G, 0, none⟩) (la + lb) (la + lb) (tOut xs ys i) ∧ Below G w wl)) (fun vi _ => la - (intOf vi).toNat)
  case atStart => exact ⟨0, rfl, Nat.zero_le _, H1.out⟩
  case round =>
    obtain ⟨i, rfl, hi, HK⟩ := hrel
    clear H1
    by_cases hlt : i < la
    · obtain ⟨x, hx, hxd⟩ := at_of (l := xs) (j := i) (by rw [HLA.out]; exact hlt)
      have hx32 : x < 4294967296 := HAL.out x (List.mem_of_getElem? hx)
      obtain ⟨ba, oa, rfl, hba, cA⟩ := read_at HA.out i x hx
      have HCA : Hid (∀ W, Below G w W → W.cell? ⟨ba, oa + i, none⟩ = some (.int .u32 (x : Int))) := fun W h => (h.cell (p := ⟨ba, oa + i, none⟩) (by rw [← HG.out]; exact hba)).trans cA
      have HX := Lib.hid hxd
      have i1 : (i : Int) < (la : Int) := by omega
      have e6 : IntKind.i64.wrap ((i : Int) + 1) = (i : Int) + 1 := IntWalk.i64_in _ (by omega)
      clear hx hxd cA hba
      have H2 : Hid (OwnU wr G (some ⟨G, 0, none⟩) (la + lb) (la + lb) (tIn x ys i 0 (tOut xs ys i)).1 ∧ Below G w wr) := HK.out
      clear HK
      go_wp2_with fail
      go_loopw [7, 8] (fun vc vk wl => ∃ k c : Nat, vc = .int .u64 (c : Int) ∧ vk = .int .i64 (k : Int) ∧ k ≤ lb ∧ c < 4294967296 ∧ Hid (c = (tIn x ys i k (tOut xs ys i)).2 ∧ OwnU wl G (some ⟨G, 0, none⟩) (la + lb) (la + lb) (tIn x ys i k (tOut xs ys i)).1 ∧ Below G w wl)) (fun _ vk _ => lb - (intOf vk).toNat)
      case atStart => exact ⟨0, 0, rfl, rfl, Nat.zero_le _, by decide, rfl, H2.out⟩
      case round =>
        obtain ⟨k, c, rfl, rfl, hk, hc, HJ⟩ := hrel
        clear H2
        obtain ⟨t1, t2, t3⟩ := tIn_ok x ys i k (tOut xs ys i) (tOut_ok xs ys i).2
        have t4 := (tOut_ok xs ys i).1
        rw [HLA.out, HLB.out] at t4
        by_cases hkl : k < lb
        · obtain ⟨y, hy, hyd⟩ := at_of (l := ys) (j := k) (by rw [HLB.out]; exact hkl)
          have hy32 : y < 4294967296 := HBL.out y (List.mem_of_getElem? hy)
          obtain ⟨bb, ob, rfl, hbb, cB⟩ := read_at HB.out k y hy
          obtain ⟨z, hz, hzd⟩ := at_of (l := (tIn x ys i k (tOut xs ys i)).1) (j := i + k) (by rw [t1, t4]; omega)
          have hz32 : z < 4294967296 := t2 z (List.mem_of_getElem? hz)
          obtain ⟨q1, q2, q3⟩ := HJ.out
          obtain ⟨m, hm⟩ : ∃ m, i + k = m := ⟨_, rfl⟩
          rw [hm] at hz hzd
          have cO := q2.cellAt m z hz
          have fO := OwnR.free q2 m
          have cA := HCA.out _ q3
          have cB' := (q3.cell (p := ⟨bb, ob + k, none⟩) (by rw [← HG.out]; exact hbb)).trans cB
          obtain ⟨s, hs⟩ : ∃ s, (x * y + z + c) % 18446744073709551616 = s := ⟨_, rfl⟩
          have hp1 : x * y < 18446744073709551616 := Nat.lt_of_lt_of_le (Nat.mul_lt_mul'' hx32 hy32) (by decide)
          obtain ⟨P, hP⟩ : ∃ P, x * y = P := ⟨_, rfl⟩
          rw [hP] at hs hp1
          have f1 : IntKind.u64.wrap (x : Int) = (x : Int) := by rw [IntKind.wrap_u64]; omega
          have f2 : IntKind.u64.wrap (y : Int) = (y : Int) := by rw [IntKind.wrap_u64]; omega
          have f3 : IntKind.u64.wrap (z : Int) = (z : Int) := by rw [IntKind.wrap_u64]; omega
          have f0 : (x : Int) * (y : Int) = (P : Int) := by rw [← hP]; simp
          have f4 : IntKind.u64.wrap ((x : Int) * (y : Int)) = (P : Int) := by rw [f0, IntKind.wrap_u64]; omega
          have f5 : IntKind.u64.wrap ((P : Int) + (z : Int)) = (((P + z) % 18446744073709551616 : Nat) : Int) := by rw [IntKind.wrap_u64]; omega
          obtain ⟨M, hM⟩ : ∃ M, (P + z) % 18446744073709551616 = M := ⟨_, rfl⟩
          rw [hM] at f5
          have f6 : IntKind.u64.wrap ((M : Int) + (c : Int)) = (s : Int) := by rw [IntKind.wrap_u64]; omega
          have f7 : IntKind.u32.wrap (s : Int) = ((s % 4294967296 : Nat) : Int) := by rw [IntKind.wrap_u32]; omega
          have f8 : (s : Int) / 4294967296 = ((s / 4294967296 : Nat) : Int) := by omega
          obtain ⟨d, hd⟩ : ∃ d, s / 4294967296 = d := ⟨_, rfl⟩
          obtain ⟨l, hl⟩ : ∃ l, s % 4294967296 = l := ⟨_, rfl⟩
          rw [hl] at f7
          rw [hd] at f8
          have e2 : IntKind.i64.wrap ((i : Int) + (k : Int)) = (m : Int) := by rw [IntWalk.i64_in _ (by omega)]; omega
          have e3 : (i : Int) + (k : Int) = (m : Int) := by omega
          have e5 : IntKind.i64.wrap ((k : Int) + 1) = (k : Int) + 1 := IntWalk.i64_in _ (by omega)
          have HN : Hid (d = (tIn x ys i (k + 1) (tOut xs ys i)).2 ∧ OwnU (wr.drew.setCell ⟨G, m, none⟩ (.int .u32 (l : Int))) G (some ⟨G, 0, none⟩) (la + lb) (la + lb) (tIn x ys i (k + 1) (tOut xs ys i)).1 ∧ Below G w (wr.drew.setCell ⟨G, m, none⟩ (.int .u32 (l : Int)))) := by
            have hxx : (x * ys.getD k 0 + (tIn x ys i k (tOut xs ys i)).1.getD (i + k) 0 + (tIn x ys i k (tOut xs ys i)).2) % 18446744073709551616 = s := by rw [hyd, hm, hzd, ← q1, hP]; exact hs
            refine ⟨?_, ?_, q3.drew.setCell (Nat.le_refl _) _⟩
            · simp only [tIn]; rw [hxx, hd]
            · simp only [tIn]; rw [hxx, hl, hm]; exact OwnU.store (w := wr.drew) q2 m l
          have hd32 : d < 4294967296 := by omega
          have i2 : (k : Int) < (lb : Int) := by omega
          have i3 : (m : Int) < (la : Int) + (lb : Int) := by omega
          have i4 : 0 ≤ (m : Int) := by omega
          have hM1 := Lib.hid hM
          have hM2 := Lib.hid hs
          have HM := Lib.hid hm
          clear hM hs hP hd hl hm q1 q2 q3 HJ cB hz hzd hy hyd hbb t1 t2 t3 t4
          go_wp2_with fail
          go_region
          all_goals
            go_wp2
            go_roundw
            case rel => exact ⟨k + 1, d, rfl, by go_num, by omega, hd32, HN.out⟩
            case measure => simp [intOf]; omega
        · obtain rfl : k = lb := by omega
          obtain ⟨q1, q2, q3⟩ := HJ.out
          obtain ⟨m, hm⟩ : ∃ m, i + k = m := ⟨_, rfl⟩
          obtain ⟨z, hz, hzd⟩ := at_of (l := (tIn x ys i k (tOut xs ys i)).1) (j := m) (by rw [t1, t4]; omega)
          have cO := q2.cellAt m z hz
          have fO := OwnR.free q2 m
          have e2 : IntKind.i64.wrap ((i : Int) + (k : Int)) = (m : Int) := by rw [IntWalk.i64_in _ (by omega)]; omega
          have e3 : (i : Int) + (k : Int) = (m : Int) := by omega
          have f7 : IntKind.u32.wrap (c : Int) = (c : Int) := by rw [IntKind.wrap_u32]; omega
          have HN : Hid (OwnU (wr.setCell ⟨G, m, none⟩ (.int .u32 (c : Int))) G (some ⟨G, 0, none⟩) (la + k) (la + k) (tOut xs ys (i + 1)) ∧ Below G w (wr.setCell ⟨G, m, none⟩ (.int .u32 (c : Int)))) := by
            refine ⟨?_, q3.setCell (Nat.le_refl _) _⟩
            simp only [tOut]
            rw [HX.out, HLB.out, ← q1, Nat.mod_eq_of_lt hc, hm]
            exact q2.store m c
          have i2 : ¬ (k : Int) < (k : Int) := by omega
          have i3 : (m : Int) < (la : Int) + (k : Int) := by omega
          have i4 : 0 ≤ (m : Int) := by omega
          clear q1 q2 q3 HJ hz hzd t1 t2 t3 t4 hm
          go_wp2
          go_roundw
          case rel => exact ⟨i + 1, by go_num, by omega, HN.out⟩
          case measure => simp [intOf]; omega
    · obtain rfl : i = la := by omega
      have i1 : ¬ (i : Int) < (i : Int) := by omega
      go_wp2
      go_ret
      exact ⟨rfl, by unfold timesQ; rw [HLA.out]; exact HK.out.1, HK.out.2⟩
end Go.Proofs.Ytmbkbehccmadfaa
