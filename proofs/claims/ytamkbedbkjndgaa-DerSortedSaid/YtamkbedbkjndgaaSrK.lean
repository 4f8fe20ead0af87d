/-
  der: the statement on sets, in whatever order.
-/
import Derived.Test.YtamkbedbkjndgaaSrJ
namespace Go.Proofs.Ytamkbedbkjndgaa
open Go.RowKit Go
set_option linter.unusedVariables false
set_option linter.unusedSimpArgs false
set_option maxRecDepth 100000
theorem PR.cell_at {w : World} {b off n : Nat} {ds : List Own1} (h : PR w (some ⟨b, off, none⟩) n ds) {i : Nat} {x : Own1} (hx : ds[i]? = some x) : w.cell? ⟨b, off + i, none⟩ = some (.slice x.1 x.2.1 x.2.2.1) := by
  obtain ⟨b', off', e, _, hc⟩ := h.cell hx
  cases e
  exact hc
/-- The parts, told backwards from a place on. -/
def turnL (ds : List Own1) (n p : Nat) : List Own1 := (List.range n).map fun i => ds.getD ((n - 1 - i + p) % n) Row1.nul
theorem turnL_len (ds : List Own1) (n p : Nat) : (turnL ds n p).length = n := by simp [turnL]
theorem turnL_snoc (ds : List Own1) (n p k : Nat) (hk : k < n) (x : Own1) (hx : ds[(n - 1 - k + p) % n]? = some x) : (turnL ds n p).take (k + 1) = (turnL ds n p).take k ++ [x] := by
  rw [List.take_add_one]
  congr 1
  unfold turnL
  rw [List.getElem?_map, List.getElem?_range hk, Option.map_some, List.getD_eq_getElem?_getD, hx]
  rfl
theorem turnL_perm (ds : List Own1) (n p : Nat) (hn : ds.length = n) : (turnL ds n p).Perm ds := by
  rcases Nat.eq_zero_or_pos n with e | hpos
  · subst e
    obtain rfl := List.length_eq_zero_iff.1 hn
    exact .refl _
  have hp : p % n < n := Nat.mod_lt _ hpos
  have h1 : turnL ds n p = (ds.drop (p % n) ++ ds.take (p % n)).reverse := by
    refine List.ext_getElem? fun i => ?_
    by_cases hi : i < n
    · rw [List.getElem?_reverse (by simp; omega)]
      unfold turnL
      rw [List.getElem?_map, List.getElem?_range hi, Option.map_some, List.getD_eq_getElem?_getD]
      have hl : (ds.drop (p % n) ++ ds.take (p % n)).length = n := by simp; omega
      rw [hl]
      have hm : (n - 1 - i + p) % n = (n - 1 - i + p % n) % n := by rw [Nat.add_mod, Nat.add_mod (n - 1 - i) (p % n), Nat.mod_mod]
      by_cases hc : n - 1 - i < n - p % n
      · rw [List.getElem?_append_left (by rw [List.length_drop]; omega), List.getElem?_drop, hm, Nat.mod_eq_of_lt (by omega), Nat.add_comm (p % n)]
        rw [List.getElem?_eq_getElem (by omega)]
        rfl
      · rw [List.getElem?_append_right (by rw [List.length_drop]; omega), List.length_drop, hm, hn]
        have e1 : (n - 1 - i + p % n) % n = n - 1 - i + p % n - n := by
          rw [Nat.mod_eq_sub_mod (by omega), Nat.mod_eq_of_lt (by omega)]
        rw [e1, List.getElem?_take, if_pos (by omega), show n - 1 - i - (n - p % n) = n - 1 - i + p % n - n by omega]
        rw [List.getElem?_eq_getElem (by omega)]
        rfl
    · rw [List.getElem?_eq_none (by rw [turnL_len]; omega), List.getElem?_eq_none (by simp; omega)]
  rw [h1]
  refine (List.reverse_perm _).trans ?_
  refine List.perm_append_comm.trans ?_
  rw [List.take_append_drop]
theorem sum_take (ds : List Own1) (j : Nat) (x : Own1) (h : ds[j]? = some x) : (flat (ds.take (j + 1))).length = (flat (ds.take j)).length + x.2.2.2.length := by
  rw [take_snoc1 h]
  unfold flat
  simp [txt]
theorem tmod_pos (a : Int) (n : Nat) (hn : 0 < n) : ∃ p : Nat, a.tmod (n : Int) + (n : Int) = (p : Int) ∧ p ≤ 2 * n := by
  have h1 := Int.tmod_lt_of_pos a (show (0 : Int) < (n : Int) by omega)
  have h2 := Int.lt_tmod_of_pos a (show (0 : Int) < (n : Int) by omega)
  exact ⟨(a.tmod (n : Int) + (n : Int)).toNat, by omega, by omega⟩
set_option maxHeartbeats 2000000 in
theorem sorted_go (A : Option Addr) (n c : Nat) (ds : List Own1) (a : Int) (w : World) (ha : (Lit.int .i64 a).wf = true) (hP : PR w A n ds) (h30 : n ≤ 30) :
    Calls Try.prog 6 #[.slice A n c, .int .i64 a] w fun e w' => e = .returned (.bool true) ∧ Below w.heap.size w w' := by
  have W := Lib.hid (fun W => works_any W)
  have HP := Lib.hid hP
  clear hP
  go_enter Try.func6, Try.ntmps6
  go_wp2
  go_loop [5, 6] (fun v i => ∃ j m : Nat, v = .int .i64 (m : Int) ∧ i = .int .i64 (j : Int) ∧ j ≤ n ∧ m ≤ 1024 * j ∧ Hid (m = (flat (ds.take j)).length ∧ ∀ r x, r < j → ds[r]? = some x → x.2.1 ≤ 1024)) (fun _ i => n - (intOf i).toNat)
  case atStart => exact ⟨0, 0, rfl, rfl, Nat.zero_le _, Nat.zero_le _, rfl, fun r x h => absurd h (Nat.not_lt_zero _)⟩
  case round =>
    obtain ⟨j, m, rfl, rfl, hj, hm, HJ⟩ := hrel
    by_cases hlt : j < n
    · obtain ⟨x, hx⟩ : ∃ x, ds[j]? = some x := ⟨_, List.getElem?_eq_getElem (by rw [HP.out.len]; exact hlt)⟩
      obtain ⟨b, off, rfl, hbb, hc0⟩ := HP.out.cell hx
      have hxl := (HP.out.ok x (List.mem_of_getElem? hx)).1
      have HX := Lib.hid hx
      have HXL := Lib.hid hxl
      clear hx hxl
      by_cases h10 : x.2.1 ≤ 1024
      · have i1 : ¬ (1024 : Int) < (x.2.1 : Int) := by omega
        have HN : Hid (m + x.2.1 = (flat (ds.take (j + 1))).length ∧ ∀ r x, r < j + 1 → ds[r]? = some x → x.2.1 ≤ 1024) := ⟨by rw [sum_take ds j x HX.out, HJ.out.1, HXL.out], fun r y hr hy => by
          rcases Nat.lt_or_ge r j with h | h
          · exact HJ.out.2 r y h hy
          · obtain rfl : r = j := by omega
            rw [HX.out] at hy
            cases hy
            exact h10⟩
        go_wp2
        go_round
        case rel => exact ⟨j + 1, m + x.2.1, by go_num, by go_num, by omega, by omega, HN⟩
        case measure => simp [intOf]; omega
      · have i1 : (1024 : Int) < (x.2.1 : Int) := by omega
        by_cases hbig : x.2.1 ≤ 1000000000000
        · go_wp2_with fail
          refine (W.out _).mono ?_
          rintro e w' ⟨rfl, hb⟩
          go_wp2
          go_ret
          exact ⟨rfl, hb⟩
        · go_wp2_with fail
          refine (W.out _).mono ?_
          rintro e w' ⟨rfl, hb⟩
          go_wp2
          go_ret
          exact ⟨rfl, hb⟩
    · obtain rfl : j = n := by omega
      have HA : Hid (∀ x ∈ ds, x.2.1 ≤ 1024) := fun x hx => by
        obtain ⟨r, hr, rfl⟩ := List.getElem_of_mem hx
        exact HJ.out.2 r _ (by rw [HP.out.len] at hr; exact hr) (List.getElem?_eq_getElem hr)
      have HM : Hid ((flat ds).length = m) := by
        unfold Hid
        rw [HJ.out.1, List.take_of_length_le (by rw [HP.out.len]; exact Nat.le_refl _)]
      clear HJ
      obtain ⟨p, hp⟩ : ∃ p : Nat, 0 < j → a.tmod (j : Int) + (j : Int) = (p : Int) ∧ p ≤ 2 * j := by
        rcases Nat.eq_zero_or_pos j with e | e
        · exact ⟨0, fun h => absurd h (by omega)⟩
        · obtain ⟨p, h⟩ := tmod_pos a j e
          exact ⟨p, fun _ => h⟩
      have HPP := Lib.hid hp
      clear hp
      go_wp2
      go_loopw [7, 8] (fun v i wl => ∃ (k : Nat) (A2 : Option Addr) (c2 : Nat), v = .slice A2 k c2 ∧ i = .int .i64 (k : Int) ∧ k ≤ j ∧ OwnR wl w.heap.size 22 1 A2 k c2 (((turnL ds j p).take k).map Own1.val) ∧ Below w.heap.size w wl) (fun _ i _ => j - (intOf i).toNat)
      case atStart => exact ⟨0, none, 0, rfl, rfl, Nat.zero_le _, OwnR.nil _ _ _ _, Below.refl _ _⟩
      case round =>
        obtain ⟨k, A2, c2, rfl, rfl, hk, hown, hb⟩ := hrel
        by_cases hkj : k < j
        · as_aux_lemma =>
          obtain ⟨hp, hp2⟩ := HPP.out (by omega)
          obtain ⟨t, ht⟩ : ∃ t : Nat, (j - 1 - k + p) % j = t := ⟨_, rfl⟩
          have htj : t < j := by rw [← ht]; exact Nat.mod_lt _ (by omega)
          obtain ⟨x, hx⟩ : ∃ x, ds[t]? = some x := ⟨_, List.getElem?_eq_getElem (by rw [HP.out.len]; exact htj)⟩
          obtain ⟨b, off, rfl, hbb, hc0⟩ := HP.out.cell hx
          have hc1 := kp_cell hb hc0
          have HS := Lib.hid (turnL_snoc ds j p k hkj x (by rw [ht]; exact hx))
          have s1 : (j : Int) - 1 - (k : Int) + (p : Int) = ((j - 1 - k + p : Nat) : Int) := by omega
          have s2 : ((j : Int) - 1 - (k : Int) + (p : Int)) % (j : Int) = (t : Int) := by rw [s1, ← ht]; rfl
          have s0 : (0 : Int) ≤ (j : Int) - 1 - (k : Int) + (p : Int) := by omega
          have s3 : ((j : Int) - 1 - (k : Int) + (p : Int)).tmod (j : Int) = (t : Int) := by rw [Int.tmod_eq_emod_of_nonneg s0]; exact s2
          have s4 : IntKind.i64.wrap ((j : Int) - 1 - (k : Int) + (p : Int)) = (j : Int) - 1 - (k : Int) + (p : Int) := by rw [IntKind.wrap_i64]; omega
          have s5 : wrap64 ((j : Int) - 1 - (k : Int) + (p : Int)) = (j : Int) - 1 - (k : Int) + (p : Int) := by unfold wrap64; omega
          have m1 := Int.tmod_lt_of_pos a (show (0 : Int) < (j : Int) by omega)
          have m2 := Int.lt_tmod_of_pos a (show (0 : Int) < (j : Int) by omega)
          have s6 : wrap64 (a.tmod (j : Int) + (j : Int)) = (p : Int) := by rw [hp]; unfold wrap64; omega
          have i0 : ((j : Int) == 0) = false := by simp; omega
          have i1 : (t : Int) < (j : Int) := by omega
          have hmax : k + 1 ≤ maxLen := by unfold maxLen; omega
          have hsz := hb.size
          have HAL : Hid ((wr.alloc (.cells #[.slice x.1 x.2.1 x.2.2.1] 22)).heap[wr.heap.size]? = some (.cells #[.slice x.1 x.2.1 x.2.2.1] 22)) := has_new _ _
          have HOW := Lib.hid (hown.alloc (.cells #[.slice x.1 x.2.1 x.2.2.1] 22))
          have H1 : Hid (∀ u ∈ (#[.slice x.1 x.2.1 x.2.2.1] : Array Value).toList, u.oneCell' = true) := by intro u hu; simp at hu; subst hu; rfl
          have HB := Lib.hid (kp_alloc hb (.cells #[.slice x.1 x.2.1 x.2.2.1] 22))
          clear hx hc0 ht s1 hown m1 m2
          go_wp2_with (at_builtin; refine wpList_appL bss_row2 _ _ rfl rfl rfl w.heap.size A2 k c2 _ rfl HOW.out wr.heap.size 1 1 #[.slice x.1 x.2.1 x.2.2.1] _ rfl HAL.out rfl H1.out hmax (by omega) (by simp; omega) ?_)
          intro V' c' w5 ho5 hg5
          have HF : Hid (OwnR w5 w.heap.size 22 1 V' (k + 1) c' (((turnL ds j p).take (k + 1)).map Own1.val) ∧ Below w.heap.size w w5) := ⟨by rw [HS.out, List.map_append, List.map_take]; exact ho5, HB.out.grown hg5 (by simp; omega) (fun g hg => (HOW.out.blk_lt hg).1)⟩
          clear ho5 hg5 hp s2 s3 s4 s5 s6
          go_wp2
          obtain ⟨r1, r2⟩ := HF.out
          go_roundw
          case rel => exact ⟨k + 1, V', c', rfl, by go_num, by omega, r1, r2⟩
          case measure => simp [intOf]; omega
        · obtain rfl : k = j := by omega
          rw [List.take_of_length_le (by rw [turnL_len]; exact Nat.le_refl _)] at hown
          have hpm := turnL_perm ds k p HP.out.len
          have HT : Hid (∀ W, Below wr.heap.size wr W → PR W A2 k (turnL ds k p)) := fun W hW => ⟨turnL_len _ _ _, (hown.below hW (Nat.le_refl _)).reads, fun x hx => (HP.out.ok x (hpm.mem_iff.1 hx)).below (kp_call hb hW)⟩
          have HFT : Hid ((flat (turnL ds k p)).length = (flat ds).length) := flat_len_perm hpm
          have HQT : Hid (sortQ ((turnL ds k p).map txt) = sortQ (ds.map txt)) := sortQ_of_perm (hpm.map txt)
          have HFL : Hid ((flat ds).length ≤ 140737488355328) := by
            have := flat_len2 ds 30 1024 (by rw [HP.out.len]; exact h30) (fun x hx => by rw [(HP.out.ok x hx).1]; exact HA.out x hx)
            unfold Hid
            omega
          have HLQ : Hid (((sortQ (ds.map txt)).flatten).length = m) := by
            unfold Hid
            rw [← HM.out]
            exact ((sortQ_perm (ds.map txt)).flatten).length_eq
          have C := Lib.hid (copied_any A k c ds wr (HP.out.below hb) (by omega) (fun x hx => by have := HA.out x hx; omega))
          have HB := Lib.hid hb
          clear hown hpm hb HPP
          go_wp2_with fail
          refine C.out.mono ?_
          rintro e w1 ⟨A3, c3, dz, rfl, hp1, htx, hb1⟩
          have hfz : flat dz = flat ds := by unfold flat; rw [htx]
          have S := Lib.hid (sets_any A3 k c3 dz w1 hp1 (by omega) (by rw [hfz]; exact HFL.out))
          rw [htx] at S
          have HB1 := Lib.hid hb1
          clear hp1 htx hb1 hfz
          go_wp2_with fail
          refine S.out.mono ?_
          rintro e w2 ⟨A4, n4, c4, rfl, ho4, hb2⟩
          have hn4 : n4 = m := by rw [← ho4.len]; exact HLQ.out
          have S2 := Lib.hid (sets_any A2 k c2 (turnL ds k p) w2 (HT.out w2 (kp_call HB1.out hb2)) (by omega) (by rw [HFT.out]; exact HFL.out))
          rw [HQT.out] at S2
          have HO4 := Lib.hid ho4
          have HB2 := Lib.hid (kp_call (kp_call HB.out HB1.out) hb2)
          subst hn4
          clear ho4 hb2
          go_wp2_with fail
          refine S2.out.mono ?_
          rintro e w3 ⟨A5, n5, c5, rfl, ho5, hb3⟩
          have E := Lib.hid (eq_any A4 A5 n4 n5 c4 c5 _ _ w3 (HO4.out.below hb3 (Nat.le_refl _)).rb ho5.rb)
          rw [beq_self_eq_true] at E
          have HB3 := Lib.hid (kp_call HB2.out hb3)
          clear ho5 hb3
          go_wp2_with fail
          refine E.out.mono ?_
          rintro e w' ⟨rfl, rfl⟩
          go_wp2_with fail
          refine (W.out _).mono ?_
          rintro e w' ⟨rfl, hb⟩
          go_wp2
          go_ret
          exact ⟨rfl, kp_call HB3.out hb⟩
theorem sorted_row (A : Option Addr) (n c : Nat) (X : Nat → Option Addr × Nat × Nat) (bss : Nat → List UInt8) (a : Int) (w : World) (h : IsRows w A n c X bss) (ha : (Lit.int .i64 a).wf = true) :
    Calls Try.prog 6 #[.slice A n c, .int .i64 a] w fun e w' => e = .returned (.bool true) ∧ Below w.heap.size w w' := by
  by_cases h30 : n ≤ 30
  · exact sorted_go A n c _ a w ha (rows_pr h).1 h30
  · have W := Lib.hid (works_any w)
    have hl := h.lim
    have i1 : (30 : Int) < (n : Int) := by omega
    clear h
    go_enter Try.func6, Try.ntmps6
    go_wp2_with fail
    refine W.out.mono ?_
    rintro e w' ⟨rfl, hb⟩
    go_wp2
    go_ret
    exact ⟨rfl, hb⟩
end Go.Proofs.Ytamkbedbkjndgaa
