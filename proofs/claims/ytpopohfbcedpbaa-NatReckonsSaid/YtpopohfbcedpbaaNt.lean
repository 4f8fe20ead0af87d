/-
  nat: the law's own: Same, brief.
-/
import Derived.Test.YtpopohfbcedpbaaNs4
namespace Go.Proofs.Ytpopohfbcedpbaa
open Go.RowKit Go
set_option linter.unusedVariables false
set_option linter.unusedSimpArgs false
set_option maxRecDepth 100000
set_option maxHeartbeats 4000000 in
theorem same_any (A B : Option Addr) (n c m d : Nat) (x y : List Nat) (w : World) (hA : RU w A n x) (hB : RU w B m y) (hn : n ≤ 1000000) (hm : m ≤ 1000000) :
    Calls Try.prog 15 #[.slice A n c, .slice B m d] w fun e w' => e = .returned (.bool (decide (x = y))) ∧ Below w.heap.size w w' := by
  have HA := Lib.hid hA
  have HB := Lib.hid hB
  by_cases hnm : n = m
  · subst hnm
    clear hA hB
    go_enter Try.func15, Try.ntmps15
    go_wp2_with fail
    go_loopw [5] (fun vi wl => ∃ i : Nat, vi = .int .i64 (i : Int) ∧ i ≤ n ∧ Hid (x.take i = y.take i ∧ Below w.heap.size w wl)) (fun vi _ => n - (intOf vi).toNat)
    case atStart => exact ⟨0, rfl, Nat.zero_le _, rfl, Below.refl _ _⟩
    case round =>
      obtain ⟨i, rfl, hi, HK⟩ := hrel
      by_cases hlt : i < n
      · have i1 : (i : Int) < (n : Int) := by omega
        have i2 : 0 ≤ (i : Int) := by omega
        have e3 : IntKind.i64.wrap ((i : Int) + 1) = (i : Int) + 1 := IntWalk.i64_in _ (by omega)
        obtain ⟨ba, oa, rfl, hba, cA⟩ := HA.out.at_ hlt
        obtain ⟨bb, ob, rfl, hbb, cB⟩ := HB.out.at_ hlt
        have cA' := (HK.out.2.cell (p := ⟨ba, oa + i, none⟩) hba).trans cA
        have cB' := (HK.out.2.cell (p := ⟨bb, ob + i, none⟩) hbb).trans cB
        have hx := getD_at (l := x) (j := i) (by rw [HA.out.len]; exact hlt)
        have hy := getD_at (l := y) (j := i) (by rw [HB.out.len]; exact hlt)
        obtain ⟨p, hp⟩ : ∃ p, x.getD i 0 = p := ⟨_, rfl⟩
        obtain ⟨q, hq⟩ : ∃ q, y.getD i 0 = q := ⟨_, rfl⟩
        rw [hp] at cA' hx
        rw [hq] at cB' hy
        clear cA cB hp hq hba hbb
        by_cases hxy : p = q
        · subst hxy
          have HN : Hid (x.take (i + 1) = y.take (i + 1) ∧ Below w.heap.size w wr) := by
            refine ⟨?_, HK.out.2⟩
            rw [List.take_add_one, List.take_add_one, HK.out.1, hx, hy]
          have t1 : ((p : Int) != (p : Int)) = false := by simp
          clear hx hy HK
          go_wp2_with fail
          go_quiet (fail)
          go_wp2
          go_roundw
          case rel => exact ⟨i + 1, by go_num, by omega, HN.out.1, kp_drewN HN.out.2 _⟩
          case measure => simp [intOf]; omega
        · have t1 : ((p : Int) != (q : Int)) = true := by simp; omega
          have HN : Hid (x ≠ y ∧ Below w.heap.size w wr) := by
            refine ⟨?_, HK.out.2⟩
            rintro rfl
            rw [hx] at hy
            injection hy with hy
            exact hxy hy
          clear hx hy HK
          go_wp2_with fail
          go_quiet (fail)
          go_wp2
          go_ret
          exact ⟨by rw [decide_eq_false HN.out.1]; rfl, kp_drewN HN.out.2 _⟩
      · have i1 : ¬ (i : Int) < (n : Int) := by omega
        have HN : Hid (x = y ∧ Below w.heap.size w wr) := by
          refine ⟨?_, HK.out.2⟩
          have h := HK.out.1
          rw [take_all (by rw [HA.out.len]; omega), take_all (by rw [HB.out.len]; omega)] at h
          exact h
        clear HK
        go_wp2
        go_ret
        exact ⟨by rw [decide_eq_true HN.out.1]; rfl, HN.out.2⟩
  · have i1 : ((n : Int) != (m : Int)) = true := by simp; omega
    have hne : x ≠ y := by
      rintro rfl
      exact hnm (hA.len.symm.trans hB.len)
    have i2 : ¬ n = m := hnm
    rw [decide_eq_false hne]
    clear hA hB hne hnm
    go_enter Try.func15, Try.ntmps15
    go_wp2
    go_ret
    exact ⟨rfl, Below.refl _ _⟩
section
variable {w : World} {ops : Array Oper} {rest : List Oper} {o : Oper} {a : Act} {Q : Exit → Act → World → Prop}
/-- Appending limbs; the source may be nil. -/
theorem wpList_appU (s x : Operand) (ho : o.op = .call { callee := .builtin .append, args := #[s, x], argTypes := #[22, 22] }) (hgd : o.guard = none) (hty : o.type = 22)
    (base : Nat) (A0 : Option Addr) (n0 c0 : Nat) (l0 : List Nat) (hs : a.eval s = .slice A0 n0 c0) (hown : OwnR w base 40 1 A0 n0 c0 (l0.map v32))
    (A : Option Addr) (m c : Nat) (l : List Nat) (hx : a.eval x = .slice A m c) (hr : RU w A m l) (hlim : n0 + m ≤ 1000000) (hbase : base ≤ w.heap.size)
    (h : ∀ A' c' w', OwnR w' base 40 1 A' (n0 + m) c' ((l0 ++ l).map v32) → w.grownBy w' (blk A0) → wpList Try.prog ops Q rest (a.put o.dst (.slice A' (n0 + m) c')) w') : wpList Try.prog ops Q (o :: rest) a w := by
  cases A with
  | some ad =>
    refine wpList_appR u32_row s x ho hgd hty base A0 n0 c0 (l0.map v32) hs hown ad m c (l.map v32) hx (by rw [List.length_map, hr.len, Nat.mul_one]) ?_ (by intro u hu; obtain ⟨q, _, rfl⟩ := List.mem_map.1 hu; rfl) (by unfold maxLen; omega) (by omega) hbase ?_
    · intro j u hu
      have hne : l.map v32 ≠ [] := by intro e; rw [e] at hu; simp at hu
      obtain ⟨b, off, e, _, hc⟩ := hr.rd hne
      injection e with e
      subst e
      have hadd : (⟨b, off, none⟩ : Addr).add j = ⟨b, off + j, none⟩ := by unfold Addr.add; split <;> simp_all
      rw [hadd]
      exact hc j u hu
    · intro V' c' w' h1 h2
      rw [← List.map_append] at h1
      exact h V' c' w' h1 h2
  | none =>
    have hl : l = [] := by
      cases l with
      | nil => rfl
      | cons z r =>
        obtain ⟨b, off, e, _⟩ := hr.rd (by simp)
        cases e
    subst hl
    obtain rfl : 0 = m := hr.len
    refine wpList_plain hgd fun K hK => ?_
    obtain ⟨i, hi, hz0, hz1, hz2⟩ := info_parts u32_row.info
    have hrun : (Builtin.append_ #[22, 22] 22 #[.slice A0 n0 c0, .slice none 0 c]).run Try.prog w = .ok (.slice A0 n0 c0) w := by
      rcases hown.2 with ⟨hv, rfl⟩ | ⟨g, cap, cur, hv, _, _, hnc, _⟩
      · injection hv with h1 h2 h3
        subst h1; subst h3
        simp [Builtin.append_, run_underlying Try.underlying22, sizeOf, typeInfo, hi, Builtin.lenOf, Builtin.firstCells]
      · injection hv with h1 h2 h3
        subst h1; subst h3
        simp [Builtin.append_, run_underlying Try.underlying22, sizeOf, typeInfo, hi, Builtin.lenOf, Builtin.firstCells, hnc, storeCells]
    unfold Oper.wp execOp
    simp only [ho, resolve, invoke, builtin, Sem.run_bind, Sem.run_pure, Result.andThen_ok, List.map_toArray, List.map_cons, List.map_nil, hs, hx, hty, hrun]
    refine hK _ _ (h A0 c0 w ?_ (World.grownBy.refl _ _))
    rw [List.append_nil]
    exact hown
end
theorem ru_of_own {w : World} {base n c : Nat} {A : Option Addr} {l : List Nat} (h : OwnR w base 40 1 A n c (l.map v32)) (hl : Lim l) : RU w A n l := ⟨by have := h.len; simpa using this, h.reads, hl⟩
/-- A right number of at most so many limbs. -/
def briefQ (x : List Nat) (k : Nat) : Nat := val (x.take k)
def BriefPost (w : World) (most v : Nat) (e : Ending) (w' : World) : Prop := ∃ A' k d, e = .returned (.slice A' k d) ∧ RU w' A' k (num v) ∧ k ≤ most ∧ k ≤ d ∧ d ≤ 9223372036854775807 ∧ Below w.heap.size w w'
theorem RU.take {w : World} {A : Option Addr} {n : Nat} {l : List Nat} (h : RU w A n l) (k : Nat) (hk : k ≤ n) : RU w A k (l.take k) := by
  refine ⟨by rw [List.length_take, h.len]; omega, fun hne => ?_, h.lim.take k⟩
  obtain ⟨b, off, e, hb, hc⟩ := h.rd (by intro e; apply hne; rw [List.map_take, e]; simp)
  refine ⟨b, off, e, hb, fun j u hu => ?_⟩
  rw [List.map_take, List.getElem?_take] at hu
  split at hu
  · exact hc j u hu
  · cases hu
set_option maxHeartbeats 4000000 in
theorem brief_any (A : Option Addr) (n c most : Nat) (x : List Nat) (w : World) (h : RU w A n x) (hnc : n ≤ c) (hc : c ≤ 9223372036854775807) (hmost : most ≤ 256) :
    Calls Try.prog 33 #[.slice A n c, .int .i64 (most : Int)] w (BriefPost w most (briefQ x most)) := by
  have HA := Lib.hid h
  obtain ⟨k0, hk0⟩ : ∃ k0, min n most = k0 := ⟨_, rfl⟩
  have e1 : min (n : Int) (most : Int) = (k0 : Int) := by omega
  have hk1 : k0 ≤ n := by omega
  have hk2 : k0 ≤ most := by omega
  have hQ : briefQ x most = val (x.take k0) := by
    unfold briefQ
    rcases Nat.le_total n most with h1 | h1
    · rw [take_all (by rw [h.len]; exact h1), take_all (by rw [h.len]; omega)]
    · rw [show k0 = most by omega]
  rw [hQ]
  obtain ⟨v, hv⟩ : ∃ v, val (x.take k0) = v := ⟨_, rfl⟩
  rw [hv]
  have HV := Lib.hid hv
  have HK0 := Lib.hid hk0
  clear h hk0 hQ hv
  go_enter Try.func33, Try.ntmps33
  go_wp2
  go_loop [5] (fun vi => ∃ k : Nat, vi = .int .i64 (k : Int) ∧ k ≤ k0 ∧ Hid (trimN x k0 = trimN x k)) (fun vi => (intOf vi).toNat)
  case atStart => exact ⟨k0, rfl, Nat.le_refl _, rfl⟩
  case round =>
    obtain ⟨k, rfl, hk, HK⟩ := hrel
    have OWN := Lib.hid (OwnR.lit w 40 1 #[] 0 (by decide) rfl)
    have RUX := fun (hkk : k ≤ n) => (HA.out.take k hkk).alloc (.cells #[] 40)
    have HB9 : Hid (∀ {w9 : World}, (w.alloc (.cells #[] 40)).grownBy w9 (blk (some ⟨w.heap.size, 0, none⟩)) → Below w.heap.size w w9) := fun {w9} hg => by
      have h1 : Below w.heap.size w (w.alloc (.cells #[] 40)) := kp_alloc (Below.refl _ _) _
      exact h1.grown hg (by simp) (fun g hg => by have h2 : some w.heap.size = some g := hg; injection h2 with h2; omega)
    have HTT : Hid (trimN x k0 = k → x.take k = num v) := fun h => by
      rw [← HV.out, ← h]; exact trim_num x HA.out.lim k0 (by rw [HA.out.len]; exact hk1)
    rcases k with _ | j
    · as_aux_lemma =>
        have i1 : ¬ ((0 : Nat) : Int) > 0 := by omega
        have HT : Hid (x.take 0 = num v) := HTT.out HK.out
        have RUX := RUX (by omega)
        rw [HT.out] at RUX
        have RUX := Lib.hid RUX
        have i9 : ((0 : Nat) : Int) ≤ (c : Int) := by omega
        clear HK HTT
        go_wp2_with (at_builtin; refine wpList_appU _ _ rfl rfl rfl w.heap.size (some ⟨w.heap.size, 0, none⟩) 0 0 [] rfl OWN.out A 0 c (num v) rfl RUX.out (by omega) (by simp) ?_)
        intro A9 c9 w9 ho9 hg9
        have ho9 : OwnR w9 w.heap.size 40 1 A9 0 c9 ((num v).map v32) := by simpa using ho9
        have HF : Hid (RU w9 A9 0 (num v) ∧ 0 ≤ c9 ∧ c9 ≤ maxLen ∧ Below w.heap.size w w9) := ⟨ru_of_own ho9 (num_lim _), ho9.cap.1, ho9.cap.2, HB9.out hg9⟩
        clear ho9 hg9 OWN RUX HB9
        go_wp2
        go_ret
        refine ⟨A9, 0, c9, rfl, HF.out.1, by omega, HF.out.2.1, ?_, HF.out.2.2.2⟩
        have := HF.out.2.2.1
        unfold maxLen at this
        omega
    · by_cases hx0 : x.getD j 0 = 0
      · as_aux_lemma =>
        have i1 : ((j + 1 : Nat) : Int) > 0 := by omega
        obtain ⟨ba, oa, rfl, hba, cj⟩ := HA.out.at_ (j := j) (by omega)
        rw [hx0] at cj
        have e1 : IntKind.i64.wrap (((j + 1 : Nat) : Int) - 1) = (j : Int) := by rw [show ((j + 1 : Nat) : Int) - 1 = j by omega]; exact IntWalk.i64_in _ (by omega)
        have i3 : (j : Int) < (n : Int) := by omega
        have i4 : (0 : Int) ≤ (j : Int) := by omega
        have t1 : (((0 : Nat) : Int) == 0) = true := by simp
        have HN : Hid (trimN x k0 = trimN x j) := by unfold Hid; rw [HK.out, trimN, if_pos hx0]
        clear HK hx0 OWN RUX HB9 HTT
        go_wp2
        go_round
        case rel => exact ⟨j, rfl, by omega, HN⟩
        case measure => simp [intOf]
      · as_aux_lemma =>
        have i1 : ((j + 1 : Nat) : Int) > 0 := by omega
        have HT : Hid (x.take (j + 1) = num v) := HTT.out (by rw [HK.out, trimN, if_neg hx0])
        have RUX := RUX (by omega)
        rw [HT.out] at RUX
        have RUX := Lib.hid RUX
        have i9 : ((j + 1 : Nat) : Int) ≤ (c : Int) := by omega
        obtain ⟨ba, oa, hAe, hba, cj⟩ := HA.out.at_ (j := j) (by omega)
        obtain ⟨z, hz⟩ : ∃ z, x.getD j 0 = z := ⟨_, rfl⟩
        rw [hz] at cj hx0
        subst hAe
        have e1 : IntKind.i64.wrap (((j + 1 : Nat) : Int) - 1) = (j : Int) := by rw [show ((j + 1 : Nat) : Int) - 1 = j by omega]; exact IntWalk.i64_in _ (by omega)
        have i3 : (j : Int) < (n : Int) := by omega
        have i4 : (0 : Int) ≤ (j : Int) := by omega
        have t1 : ((z : Int) == 0) = false := by simp; omega
        have HX := Lib.hid (And.intro hz hx0)
        clear HK HTT hz hx0
        go_wp2_with (at_builtin; refine wpList_appU _ _ rfl rfl rfl w.heap.size (some ⟨w.heap.size, 0, none⟩) 0 0 [] rfl OWN.out (some ⟨ba, oa, none⟩) (j + 1) c (num v) rfl RUX.out (by omega) (by simp) ?_)
        intro A9 c9 w9 ho9 hg9
        have ho9 : OwnR w9 w.heap.size 40 1 A9 (j + 1) c9 ((num v).map v32) := by simpa using ho9
        have HF : Hid (RU w9 A9 (j + 1) (num v) ∧ (j + 1) ≤ c9 ∧ c9 ≤ maxLen ∧ Below w.heap.size w w9) := ⟨ru_of_own ho9 (num_lim _), ho9.cap.1, ho9.cap.2, HB9.out hg9⟩
        clear ho9 hg9 OWN RUX HB9
        go_wp2
        go_ret
        refine ⟨A9, (j + 1), c9, rfl, HF.out.1, by omega, HF.out.2.1, ?_, HF.out.2.2.2⟩
        have := HF.out.2.2.1
        unfold maxLen at this
        omega
end Go.Proofs.Ytpopohfbcedpbaa
