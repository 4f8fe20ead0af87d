/-
  nat: the law's own: Same, brief.
-/
import Derived.Test.YtcmhacecnahfoaaNs4
namespace Go.Proofs.Ytcmhacecnahfoaa
open Go.RowKit Go
set_option linter.unusedVariables false
set_option linter.unusedSimpArgs false
set_option maxRecDepth 100000
set_option maxHeartbeats 4000000 in
theorem same_any (A B : Option Addr) (n c m d : Nat) (x y : List Nat) (w : World) (hA : RU w A n x) (hB : RU w B m y) (hn : n ≤ 1000000) (hm : m ≤ 1000000) :
    Calls Try.prog 13 #[.slice A n c, .slice B m d] w fun e w' => e = .returned (.bool (decide (x = y))) ∧ Below w.heap.size w w' := by
  have HA := Lib.hid hA
  have HB := Lib.hid hB
  by_cases hnm : n = m
  · subst hnm
    clear hA hB
    go_enter Try.func13, Try.ntmps13
    go_wp2_with fail
    go_loopw [5] (fun vi wl => ∃ i : Nat, vi = .int .i64 (i : Int) ∧ i ≤ n ∧ Hid (x.take i = y.take i ∧ Below w.heap.size w wl)) (fun vi _ => n - (intOf vi).toNat)
    case atStart => exact ⟨0, rfl, Nat.zero_le _, rfl, Below.refl _ _⟩
    case round =>
      obtain ⟨i, rfl, hi, HK⟩ := hrel
      by_cases hlt : i < n
      · have i1 : (i : Int) < (n : Int) := by omega
        have i2 : 0 ≤ (i : Int) := by omega
        have e3 : IntKind.i64.wrap ((i : Int) + 1) = (i : Int) + 1 := IntWalk.i64_in _ (by omega)
        obtain ⟨ba, oa, rfl, hba, cA⟩ := HA.out.at_ hlt
        obtain ⟨bb, ob, rfl, hbb, cB⟩ := HB.out.at_ hlt
        have cA' := (HK.out.2.cell (p := ⟨ba, oa + i, none⟩) hba).trans cA
        have cB' := (HK.out.2.cell (p := ⟨bb, ob + i, none⟩) hbb).trans cB
        have hx := getD_at (l := x) (j := i) (by rw [HA.out.len]; exact hlt)
        have hy := getD_at (l := y) (j := i) (by rw [HB.out.len]; exact hlt)
        obtain ⟨p, hp⟩ : ∃ p, x.getD i 0 = p := ⟨_, rfl⟩
        obtain ⟨q, hq⟩ : ∃ q, y.getD i 0 = q := ⟨_, rfl⟩
        rw [hp] at cA' hx
        rw [hq] at cB' hy
        clear cA cB hp hq hba hbb
        by_cases hxy : p = q
        · subst hxy
          have HN : Hid (x.take (i + 1) = y.take (i + 1) ∧ Below w.heap.size w wr) := by
            refine ⟨?_, HK.out.2⟩
            rw [List.take_add_one, List.take_add_one, HK.out.1, hx, hy]
          have t1 : ((p : Int) != (p : Int)) = false := by simp
          clear hx hy HK
          go_wp2_with fail
          go_quiet (fail)
          go_wp2
          go_roundw
          case rel => exact ⟨i + 1, by go_num, by omega, HN.out.1, kp_drewN HN.out.2 _⟩
          case measure => simp [intOf]; omega
        · have t1 : ((p : Int) != (q : Int)) = true := by simp; omega
          have HN : Hid (x ≠ y ∧ Below w.heap.size w wr) := by
            refine ⟨?_, HK.out.2⟩
            rintro rfl
            rw [hx] at hy
            injection hy with hy
            exact hxy hy
          clear hx hy HK
          go_wp2_with fail
          go_quiet (fail)
          go_wp2
          go_ret
          exact ⟨by rw [decide_eq_false HN.out.1]; rfl, kp_drewN HN.out.2 _⟩
      · have i1 : ¬ (i : Int) < (n : Int) := by omega
        have HN : Hid (x = y ∧ Below w.heap.size w wr) := by
          refine ⟨?_, HK.out.2⟩
          have h := HK.out.1
          rw [take_all (by rw [HA.out.len]; omega), take_all (by rw [HB.out.len]; omega)] at h
          exact h
        clear HK
        go_wp2
        go_ret
        exact ⟨by rw [decide_eq_true HN.out.1]; rfl, HN.out.2⟩
  · have i1 : ((n : Int) != (m : Int)) = true := by simp; omega
    have hne : x ≠ y := by
      rintro rfl
      exact hnm (hA.len.symm.trans hB.len)
    have i2 : ¬ n = m := hnm
    rw [decide_eq_false hne]
    clear hA hB hne hnm
    go_enter Try.func13, Try.ntmps13
    go_wp2
    go_ret
    exact ⟨rfl, Below.refl _ _⟩
section
variable {w : World} {ops : Array Oper} {rest : List Oper} {o : Oper} {a : Act} {Q : Exit → Act → World → Prop}
/-- Appending limbs; the source may be nil. -/
theorem wpList_appU (s x : Operand) (ho : o.op = .call { callee := .builtin .append, args := #[s, x], argTypes := #[22, 22] }) (hgd : o.guard = none) (hty : o.type = 22)
    (base : Nat) (A0 : Option Addr) (n0 c0 : Nat) (l0 : List Nat) (hs : a.eval s = .slice A0 n0 c0) (hown : OwnR w base 31 1 A0 n0 c0 (l0.map v32))
    (A : Option Addr) (m c : Nat) (l : List Nat) (hx : a.eval x = .slice A m c) (hr : RU w A m l) (hlim : n0 + m ≤ 1000000) (hbase : base ≤ w.heap.size)
    (h : ∀ A' c' w', OwnR w' base 31 1 A' (n0 + m) c' ((l0 ++ l).map v32) → w.grownBy w' (blk A0) → wpList Try.prog ops Q rest (a.put o.dst (.slice A' (n0 + m) c')) w') : wpList Try.prog ops Q (o :: rest) a w := by
  cases A with
  | some ad =>
    refine wpList_appR u32_row s x ho hgd hty base A0 n0 c0 (l0.map v32) hs hown ad m c (l.map v32) hx (by rw [List.length_map, hr.len, Nat.mul_one]) ?_ (by intro u hu; obtain ⟨q, _, rfl⟩ := List.mem_map.1 hu; rfl) (by unfold maxLen; omega) (by omega) hbase ?_
    · intro j u hu
      have hne : l.map v32 ≠ [] := by intro e; rw [e] at hu; simp at hu
      obtain ⟨b, off, e, _, hc⟩ := hr.rd hne
      injection e with e
      subst e
      have hadd : (⟨b, off, none⟩ : Addr).add j = ⟨b, off + j, none⟩ := by unfold Addr.add; split <;> simp_all
      rw [hadd]
      exact hc j u hu
    · intro V' c' w' h1 h2
      rw [← List.map_append] at h1
      exact h V' c' w' h1 h2
  | none =>
    have hl : l = [] := by
      cases l with
      | nil => rfl
      | cons z r =>
        obtain ⟨b, off, e, _⟩ := hr.rd (by simp)
        cases e
    subst hl
    obtain rfl : 0 = m := hr.len
    refine wpList_plain hgd fun K hK => ?_
    obtain ⟨i, hi, hz0, hz1, hz2⟩ := info_parts u32_row.info
    have hrun : (Builtin.append_ #[22, 22] 22 #[.slice A0 n0 c0, .slice none 0 c]).run Try.prog w = .ok (.slice A0 n0 c0) w := by
      rcases hown.2 with ⟨hv, rfl⟩ | ⟨g, cap, cur, hv, _, _, hnc, _⟩
      · injection hv with h1 h2 h3
        subst h1; subst h3
        simp [Builtin.append_, run_underlying Try.underlying22, sizeOf, typeInfo, hi, Builtin.lenOf, Builtin.firstCells]
      · injection hv with h1 h2 h3
        subst h1; subst h3
        simp [Builtin.append_, run_underlying Try.underlying22, sizeOf, typeInfo, hi, Builtin.lenOf, Builtin.firstCells, hnc, storeCells]
    unfold Oper.wp execOp
    simp only [ho, resolve, invoke, builtin, Sem.run_bind, Sem.run_pure, Result.andThen_ok, List.map_toArray, List.map_cons, List.map_nil, hs, hx, hty, hrun]
    refine hK _ _ (h A0 c0 w ?_ (World.grownBy.refl _ _))
    rw [List.append_nil]
    exact hown
end
theorem ru_of_own {w : World} {base n c : Nat} {A : Option Addr} {l : List Nat} (h : OwnR w base 31 1 A n c (l.map v32)) (hl : Lim l) : RU w A n l := ⟨by have := h.len; simpa using this, h.reads, hl⟩
/-- A right number of at most so many limbs. -/
def briefQ (x : List Nat) (k : Nat) : Nat := val (x.take k)
def BriefPost (w : World) (most v : Nat) (e : Ending) (w' : World) : Prop := ∃ A' k d, e = .returned (.slice A' k d) ∧ RU w' A' k (num v) ∧ k ≤ most ∧ k ≤ d ∧ d ≤ 9223372036854775807 ∧ Below w.heap.size w w'
theorem RU.take {w : World} {A : Option Addr} {n : Nat} {l : List Nat} (h : RU w A n l) (k : Nat) (hk : k ≤ n) : RU w A k (l.take k) := by
  refine ⟨by rw [List.length_take, h.len]; omega, fun hne => ?_, h.lim.take k⟩
  obtain ⟨b, off, e, hb, hc⟩ := h.rd (by intro e; apply hne; rw [List.map_take, e]; simp)
  refine ⟨b, off, e, hb, fun j u hu => ?_⟩
  rw [List.map_take, List.getElem?_take] at hu
  split at hu
  · exact hc j u hu
  · cases hu
end Go.Proofs.Ytcmhacecnahfoaa
