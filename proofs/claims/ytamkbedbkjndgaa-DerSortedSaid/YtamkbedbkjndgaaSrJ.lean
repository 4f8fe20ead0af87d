/-
  der: copies of parts, the statement on sets.
-/
import Derived.Test.YtamkbedbkjndgaaSrI
import Derived.Test.YtamkbedbkjndgaaDrWk
namespace Go.Proofs.Ytamkbedbkjndgaa
open Go.RowKit Go
set_option linter.unusedVariables false
set_option linter.unusedSimpArgs false
set_option maxRecDepth 100000
def rowsL (X : Nat → Option Addr × Nat × Nat) (bss : Nat → List UInt8) (n : Nat) : List Own1 := (List.range n).map fun r => ((X r).1, (X r).2.1, (X r).2.2, bss r)
theorem rows_pr {w : World} {A : Option Addr} {n c : Nat} {X : Nat → Option Addr × Nat × Nat} {bss : Nat → List UInt8} (h : IsRows w A n c X bss) : PR w A n (rowsL X bss n) ∧ (∀ x ∈ rowsL X bss n, x.2.1 ≤ 9223372036854775807) := by
  refine ⟨⟨by simp [rowsL], fun hn => ?_, fun x hx => ?_⟩, fun x hx => ?_⟩
  · have h0 : 0 < n := by
      rcases Nat.eq_zero_or_pos n with e | e
      · subst e; exact absurd rfl hn
      · exact e
    obtain ⟨b, off, e, hb, hr⟩ := h.rows h0
    refine ⟨b, off, e, hb, fun j u hu => ?_⟩
    have hj : j < n := by
      rcases Nat.lt_or_ge j n with h1 | h1
      · exact h1
      · rw [List.getElem?_eq_none (by simp [rowsL]; exact h1)] at hu; cases hu
    rw [(hr j hj).1]
    simp only [rowsL, List.map_map, List.getElem?_map, List.getElem?_range hj, Option.map_some] at hu
    exact hu
  all_goals
    obtain ⟨r, hr, rfl⟩ := List.mem_map.1 hx
    have hr := List.mem_range.1 hr
    obtain ⟨b, off, e, hb, hh⟩ := h.rows (by omega)
  · exact (hh r hr).2.rb
  · have h1 := (hh r hr).2.le
    have h2 := (hh r hr).2.max
    unfold maxLen at h2
    simp only
    omega
structure PO (w : World) (base : Nat) (ds : List Own1) : Prop where
  o : ∀ x ∈ ds, OwnB w base x.1 x.2.1 x.2.2.1 x.2.2.2
theorem copied_any (A : Option Addr) (n c : Nat) (ds : List Own1) (w : World) (hP : PR w A n ds) (hn : n ≤ 1000000) (hl : ∀ x ∈ ds, x.2.1 ≤ 1000000) :
    Calls Try.prog 19 #[.slice A n c] w fun e w' => ∃ A2 c2 dz, e = .returned (.slice A2 n c2) ∧ PR w' A2 n dz ∧ dz.map txt = ds.map txt ∧ Below w.heap.size w w' := by
  have HP := Lib.hid hP
  have HL := Lib.hid hl
  clear hP hl
  go_enter Try.func19, Try.ntmps19
  go_wp2
  go_loopw [3, 4] (fun v i wl => ∃ (k : Nat) (A2 : Option Addr) (c2 : Nat) (dk : List Own1), v = .slice A2 k c2 ∧ i = .int .i64 (k : Int) ∧ k ≤ n ∧ OwnR wl w.heap.size 22 1 A2 k c2 (dk.map Own1.val) ∧ PO wl w.heap.size dk ∧ Below w.heap.size w wl ∧ Hid (dk.map txt = (ds.take k).map txt)) (fun _ i _ => n - (intOf i).toNat)
  case atStart => exact ⟨0, none, 0, [], rfl, rfl, Nat.zero_le _, OwnR.nil _ _ _ _, ⟨fun x hx => by cases hx⟩, Below.refl _ _, rfl⟩
  case round =>
    obtain ⟨k, A2, c2, dk, rfl, rfl, hk, hown, hpo, hb, HK⟩ := hrel
    by_cases hlt : k < n
    · obtain ⟨x, hx⟩ : ∃ x, ds[k]? = some x := ⟨_, List.getElem?_eq_getElem (by rw [HP.out.len]; exact hlt)⟩
      obtain ⟨b, off, rfl, hbb, hc0⟩ := HP.out.cell hx
      have hc1 := kp_cell hb hc0
      have hm := List.mem_of_getElem? hx
      have HX := Lib.hid hx
      have hx1 := HL.out x hm
      have C := Lib.hid (copy_any x.1 x.2.1 x.2.2.1 x.2.2.2 wr ((HP.out.ok x hm).below hb) (by omega))
      have hsz := hb.size
      have HOW := Lib.hid hown
      have HPO := Lib.hid hpo
      clear hc0 hx hm hown hpo
      go_wp2_with fail
      refine C.out.mono ?_
      rintro e w3 ⟨B1, m1, k1, rfl, ho1, hb3⟩
      have hmax : k + 1 ≤ maxLen := by unfold maxLen; omega
      have hz3 := hb3.size
      have HAL : Hid ((w3.alloc (.cells #[.slice B1 m1 k1] 22)).heap[w3.heap.size]? = some (.cells #[.slice B1 m1 k1] 22)) := has_new _ _
      have HOW3 := Lib.hid ((HOW.out.below hb3 (Nat.le_refl _)).alloc (.cells #[.slice B1 m1 k1] 22))
      have HPO3 : Hid (PO (w3.alloc (.cells #[.slice B1 m1 k1] 22)) w.heap.size (dk ++ [(B1, m1, k1, x.2.2.2)])) := ⟨fun y hy => by
        rcases List.mem_append.1 hy with hy | hy
        · exact ((HPO.out.o y hy).below hb3 (Nat.le_refl _)).alloc _
        · rw [List.mem_singleton.1 hy]; exact (ho1.lower hsz).alloc _⟩
      have H1 : Hid (∀ u ∈ (#[.slice B1 m1 k1] : Array Value).toList, u.oneCell' = true) := by intro u hu; simp at hu; subst hu; rfl
      have HB3 := Lib.hid (kp_alloc (kp_call hb hb3) (.cells #[.slice B1 m1 k1] 22))
      clear ho1 hb3 hb
      go_wp2_with (at_builtin; refine wpList_appL bss_row2 _ _ rfl rfl rfl w.heap.size A2 k c2 _ rfl HOW3.out w3.heap.size 1 1 #[.slice B1 m1 k1] _ rfl HAL.out rfl H1.out hmax (by omega) (by simp; omega) ?_)
      intro V' c' w5 ho5 hg5
      have HF : Hid (OwnR w5 w.heap.size 22 1 V' (k + 1) c' ((dk ++ [(B1, m1, k1, x.2.2.2)]).map Own1.val) ∧ PO w5 w.heap.size (dk ++ [(B1, m1, k1, x.2.2.2)]) ∧ Below w.heap.size w w5 ∧ (dk ++ [(B1, m1, k1, x.2.2.2)]).map txt = (ds.take (k + 1)).map txt) := by
        refine ⟨by rw [List.map_append]; exact ho5, ⟨fun y hy => ?_⟩, HB3.out.grown hg5 (by simp; omega) (fun g hg => (HOW3.out.blk_lt hg).1), ?_⟩
        · exact (HPO3.out.o y hy).kept hg5 ((HPO3.out.o y hy).row.ne HOW3.out (by decide))
        · rw [take_snoc1 HX.out, List.map_append, HK.out, List.map_append]
          rfl
      clear ho5 hg5
      go_wp2
      obtain ⟨r1, r2, r3, r4⟩ := HF.out
      go_roundw
      case rel => exact ⟨k + 1, V', c', _, rfl, by go_num, by omega, r1, r2, r3, r4⟩
      case measure => simp [intOf]; omega
    · obtain rfl : k = n := by omega
      have hT : dk.map txt = ds.map txt := by
        rw [HK.out, List.take_of_length_le (by rw [HP.out.len]; exact Nat.le_refl _)]
      have HT := Lib.hid hT
      clear hT
      go_wp2
      go_ret
      exact ⟨A2, c2, dk, rfl, ⟨by have := hown.len; simpa using this, hown.reads, fun x hx => (hpo.o x hx).rb⟩, HT.out, hb⟩
theorem flat_len2 (ds : List Own1) (n m : Nat) (hn : ds.length ≤ n) (h : ∀ x ∈ ds, x.2.2.2.length ≤ m) : (flat ds).length ≤ n * m := by
  induction ds generalizing n with
  | nil => simp [flat]
  | cons x r ih =>
    obtain ⟨k, rfl⟩ : ∃ k, n = k + 1 := ⟨n - 1, by simp at hn; omega⟩
    have h1 := ih k (by simpa using hn) (fun y hy => h y (List.mem_cons_of_mem _ hy))
    have h2 := h x (by simp)
    have e : flat (x :: r) = x.2.2.2 ++ flat r := rfl
    rw [e, List.length_append, Nat.succ_mul]
    omega
theorem eq_q (x y : Own1) (w : World) (h1 : RB w x.1 x.2.1 x.2.2.2) (h2 : RB w y.1 y.2.1 y.2.2.2) (he : x.2.2.2 = y.2.2.2) : Calls Try.prog 21 #[.slice x.1 x.2.1 x.2.2.1, .slice y.1 y.2.1 y.2.2.1] w fun e w' => e = .returned (.bool true) ∧ w' = w := by
  refine (eq_any x.1 y.1 x.2.1 y.2.1 x.2.2.1 y.2.2.1 _ _ w h1 h2).mono fun e w' h => ⟨?_, h.2.symm⟩
  rw [h.1, he, beq_self_eq_true]
set_option maxHeartbeats 2000000 in
theorem sets_go (A : Option Addr) (n c : Nat) (ds : List Own1) (w : World) (hP : PR w A n ds) (h60 : n ≤ 60) :
    Calls Try.prog 4 #[.slice A n c] w fun e w' => e = .returned (.bool true) ∧ Below w.heap.size w w' := by
  have W := Lib.hid (fun W => works_any W)
  have HP := Lib.hid hP
  clear hP
  go_enter Try.func4, Try.ntmps4
  go_wp2
  go_loop [3] (fun i => ∃ j : Nat, i = .int .i64 (j : Int) ∧ j ≤ n ∧ Hid (∀ r x, r < j → ds[r]? = some x → x.2.1 ≤ 1024)) (fun i => n - (intOf i).toNat)
  case atStart => exact ⟨0, rfl, Nat.zero_le _, fun r x h => absurd h (Nat.not_lt_zero _)⟩
  case round =>
    obtain ⟨j, rfl, hj, HJ⟩ := hrel
    by_cases hlt : j < n
    · obtain ⟨x, hx⟩ : ∃ x, ds[j]? = some x := ⟨_, List.getElem?_eq_getElem (by rw [HP.out.len]; exact hlt)⟩
      obtain ⟨b, off, rfl, hbb, hc0⟩ := HP.out.cell hx
      have HX := Lib.hid hx
      clear hx
      by_cases h10 : x.2.1 ≤ 1024
      · have i1 : ¬ (1024 : Int) < (x.2.1 : Int) := by omega
        have HN : Hid (∀ r x, r < j + 1 → ds[r]? = some x → x.2.1 ≤ 1024) := fun r y hr hy => by
          rcases Nat.lt_or_ge r j with h | h
          · exact HJ.out r y h hy
          · obtain rfl : r = j := by omega
            rw [HX.out] at hy
            cases hy
            exact h10
        go_wp2
        go_round
        case rel => exact ⟨j + 1, by go_num, by omega, HN⟩
        case measure => simp [intOf]; omega
      · have i1 : (1024 : Int) < (x.2.1 : Int) := by omega
        go_wp2_with fail
        refine (W.out _).mono ?_
        rintro e w' ⟨rfl, hb⟩
        go_wp2
        go_ret
        exact ⟨rfl, hb⟩
    · obtain rfl : j = n := by omega
      have HA : Hid (∀ x ∈ ds, x.2.1 ≤ 1024) := fun x hx => by
        obtain ⟨r, hr, rfl⟩ := List.getElem_of_mem hx
        exact HJ.out r _ (by rw [HP.out.len] at hr; exact hr) (List.getElem?_eq_getElem hr)
      have HFL : Hid ((flat ds).length ≤ 140737488355328) := by
        have := flat_len2 ds 60 1024 (by rw [HP.out.len]; exact h60) (fun x hx => by rw [(HP.out.ok x hx).1]; exact HA.out x hx)
        unfold Hid
        omega
      have C := Lib.hid (copied_any A j c ds w HP.out (by omega) (fun x hx => by have := HA.out x hx; omega))
      clear HJ
      go_wp2_with fail
      refine C.out.mono ?_
      rintro e w1 ⟨A2, c2, dz, rfl, hp1, htx, hb1⟩
      have hfz : flat dz = flat ds := by unfold flat; rw [htx]
      have S := Lib.hid (sets_any A2 j c2 dz w1 hp1 (by omega) (by rw [hfz]; exact HFL.out))
      rw [htx] at S
      have HP1 := Lib.hid hp1
      have HTX := Lib.hid htx
      have HB1 := Lib.hid hb1
      clear hp1 htx hb1 hfz
      go_wp2_with fail
      refine S.out.mono ?_
      rintro e w2 ⟨A3, n3, c3, rfl, ho3, hb2⟩
      have R := Lib.hid (rsets_any A j c ds w2 ((HP.out.below HB1.out).below hb2 |> fun h => h) (by omega) HFL.out)
      have HO3 := Lib.hid ho3
      have HB2 := Lib.hid hb2
      clear ho3 hb2
      go_wp2_with fail
      refine R.out.mono ?_
      rintro e w3 ⟨A4, n4, c4, rfl, ho4, hb3⟩
      have E := Lib.hid (eq_any A3 A4 n3 n4 c3 c4 _ _ w3 (HO3.out.below hb3 (Nat.le_refl _)).rb ho4.rb)
      rw [beq_self_eq_true] at E
      have HP3 := Lib.hid ((HP1.out.below HB2.out).below hb3)
      have HPP := Lib.hid (HP.out.below (kp_call (kp_call HB1.out HB2.out) hb3))
      have HBW := Lib.hid (kp_call (kp_call HB1.out HB2.out) hb3)
      clear ho4 hb3
      go_wp2_with fail
      refine E.out.mono ?_
      rintro e w' ⟨rfl, rfl⟩
      go_wp2
      go_loopw [6] (fun i wl => ∃ k : Nat, i = .int .i64 (k : Int) ∧ k ≤ j ∧ ∃ q, wl = w3.drewN q) (fun i _ => j - (intOf i).toNat)
      case atStart => exact ⟨0, rfl, Nat.zero_le _, 0, rfl⟩
      case round =>
        obtain ⟨k, rfl, hk, q, rfl⟩ := hrel
        by_cases hkj : k < j
        · obtain ⟨x, hx⟩ : ∃ x, ds[k]? = some x := ⟨_, List.getElem?_eq_getElem (by rw [HP.out.len]; exact hkj)⟩
          obtain ⟨y, hy⟩ : ∃ y, dz[k]? = some y := ⟨_, List.getElem?_eq_getElem (by rw [HP1.out.len]; exact hkj)⟩
          have hxy : y.2.2.2 = x.2.2.2 := by
            have := congrArg (fun l => l[k]?) HTX.out
            simp only [List.getElem?_map, hx, hy, Option.map_some, Option.some.injEq] at this
            exact this
          obtain ⟨b, off, e1, hbb, c1⟩ := HPP.out.cell hx
          obtain ⟨b2, off2, e2, hbb2, c2x⟩ := HP3.out.cell hy
          have EE := Lib.hid (fun t => eq_q y x ((w3.drewN q).drewN t) (((HP3.out.ok y (List.mem_of_getElem? hy)).drewN q).drewN t) (((HPP.out.ok x (List.mem_of_getElem? hx)).drewN q).drewN t) hxy)
          subst e1
          subst e2
          clear hx hy hxy
          have c1' : (w3.drewN q).cell? ⟨b, off + k, none⟩ = some (.slice x.1 x.2.1 x.2.2.1) := c1
          have c2' : (w3.drewN q).cell? ⟨b2, off2 + k, none⟩ = some (.slice y.1 y.2.1 y.2.2.1) := c2x
          clear c1 c2x
          obtain ⟨wq, hwq⟩ : ∃ wq, w3.drewN q = wq := ⟨_, rfl⟩
          rw [hwq] at c1' c2' EE
          have HW := Lib.hid hwq
          rw [hwq]
          clear hwq
          have i1 : (k : Int) < (j : Int) := by omega
          go_wp2_with fail
          go_quiet ((go_at_call 21; exact Calls.quiet_of_same (EE.out _)))
          go_wp2
          go_roundw
          case rel => exact ⟨k + 1, by go_num, by omega, _, by rw [← HW.out]; exact World.drewN_drewN _ _ _⟩
          case measure => simp [intOf]; omega
        · obtain rfl : k = j := by omega
          go_wp2_with fail
          refine (W.out _).mono ?_
          rintro e w' ⟨rfl, hb⟩
          go_wp2
          go_ret
          exact ⟨rfl, kp_call (kp_drewN HBW.out _) hb⟩
theorem sets_row (A : Option Addr) (n c : Nat) (X : Nat → Option Addr × Nat × Nat) (bss : Nat → List UInt8) (w : World) (h : IsRows w A n c X bss) :
    Calls Try.prog 4 #[.slice A n c] w fun e w' => e = .returned (.bool true) ∧ Below w.heap.size w w' := by
  by_cases h60 : n ≤ 60
  · exact sets_go A n c _ w (rows_pr h).1 h60
  · have W := Lib.hid (works_any w)
    have hl := h.lim
    have i1 : (60 : Int) < (n : Int) := by omega
    clear h
    go_enter Try.func4, Try.ntmps4
    go_wp2_with fail
    refine W.out.mono ?_
    rintro e w' ⟨rfl, hb⟩
    go_wp2
    go_ret
    exact ⟨rfl, hb⟩
end Go.Proofs.Ytamkbedbkjndgaa
