/-
  der: Sets of the document.
-/
import Derived.Test.YtamkbedbkjndgaaSrH
namespace Go.Proofs.Ytamkbedbkjndgaa
open Go.RowKit Go
set_option linter.unusedVariables false
set_option linter.unusedSimpArgs false
set_option maxRecDepth 100000
theorem take_snoc1 {ds : List Own1} {i : Nat} {x : Own1} (h : ds[i]? = some x) : ds.take (i + 1) = ds.take i ++ [x] := by rw [List.take_add_one, h]; rfl
set_option maxHeartbeats 4000000 in
theorem rsets_any (A : Option Addr) (n c : Nat) (ds : List Own1) (w : World) (hP : PR w A n ds) (hn : n ≤ 1000000) (hlen : (flat ds).length ≤ 140737488355328) :
    Calls Try.prog 22 #[.slice A n c] w (Fresh w (sortQ (ds.map txt)).flatten) := by
  have HP := Lib.hid hP
  have HL := Lib.hid hlen
  clear hP hlen
  go_enter Try.func22, Try.ntmps22
  go_wp2
  go_loopw [3, 4] (fun v i wl => ∃ (k : Nat) (A2 : Option Addr) (c2 : Nat) (dk : List Own1), v = .slice A2 k c2 ∧ i = .int .i64 (k : Int) ∧ k ≤ n ∧ OwnR wl w.heap.size 22 1 A2 k c2 (dk.map Own1.val) ∧ Below w.heap.size w wl ∧ Hid (dk.Perm (ds.take k) ∧ Srt leR dk 0 k)) (fun _ i _ => n - (intOf i).toNat)
  case atStart => exact ⟨0, none, 0, [], rfl, rfl, Nat.zero_le _, OwnR.nil _ _ _ _, Below.refl _ _, by simp, Srt.one (by omega)⟩
  case round =>
    obtain ⟨k, A2, c2, dk, rfl, rfl, hk, hown, hb, HK⟩ := hrel
    by_cases hlt : k < n
    · as_aux_lemma =>
      obtain ⟨x, hx⟩ : ∃ x, ds[k]? = some x := ⟨_, List.getElem?_eq_getElem (by rw [HP.out.len]; exact hlt)⟩
      obtain ⟨b, off, rfl, hbb, hc0⟩ := HP.out.cell hx
      have hc1 := kp_cell hb hc0
      have HCX := Lib.hid hc0
      have HX := Lib.hid hx
      have hsz := hb.size
      have hmax : k + 1 ≤ maxLen := by unfold maxLen; omega
      have HAL : Hid ((wr.alloc (.cells #[.slice x.1 x.2.1 x.2.2.1] 22)).heap[wr.heap.size]? = some (.cells #[.slice x.1 x.2.1 x.2.2.1] 22)) := has_new _ _
      have HOW := Lib.hid (hown.alloc (.cells #[.slice x.1 x.2.1 x.2.2.1] 22))
      have H1 : Hid (∀ u ∈ (#[.slice x.1 x.2.1 x.2.2.1] : Array Value).toList, u.oneCell' = true) := by intro u hu; simp at hu; subst hu; rfl
      clear hc0 hx
      go_wp2_with (at_builtin; refine wpList_appL bss_row2 _ _ rfl rfl rfl w.heap.size A2 k c2 _ rfl HOW.out wr.heap.size 1 1 #[.slice x.1 x.2.1 x.2.2.1] _ rfl HAL.out rfl H1.out hmax (by omega) (by simp; omega) ?_)
      intro V' c' w5 ho5 hg5
      have hb5 : Below w.heap.size w w5 := (kp_alloc hb _).grown hg5 (by simp; omega) (fun g hg => (HOW.out.blk_lt hg).1)
      obtain ⟨g, rfl, hgb, hgl⟩ := ho5.shape (by have := ho5.cap.1; omega)
      have hst : ST w g (k + 1) c' (dk ++ [x]) w5 := by
        refine ⟨by rw [List.map_append]; exact ho5, hb5, fun y hy => ?_⟩
        rcases List.mem_append.1 hy with hy | hy
        · exact HP.out.ok y (List.mem_of_mem_take ((HK.out.1.mem_iff).1 hy))
        · rw [List.mem_singleton.1 hy]; exact HP.out.ok x (List.mem_of_getElem? HX.out)
      have hdl : dk.length = k := by have := hown.len; simpa using this
      have HJ0 : Hid (ST w g (k + 1) c' (dk ++ [x]) w5 ∧ (∃ D : List Own1, D = (dk ++ [x]).set k x ∧ D.Perm (ds.take (k + 1)) ∧ InJ D 0 k k)) := ⟨hst, _, rfl, by
        rw [take_snoc1 HX.out]
        have : (dk ++ [x]).set k x = dk ++ [x] := by rw [← hdl]; simp
        rw [this]
        exact HK.out.1.append_right _, by
        have : (dk ++ [x]).set k x = dk ++ [x] := by rw [← hdl]; simp
        rw [this]
        exact inj_start (HK.out.2.same fun i _ hi => by rw [List.getElem?_append_left (by omega)])⟩
      clear hst ho5 hb5 hg5 hown hdl HOW HAL hb
      go_wp2
      go_loopw [5] (fun vj wl => ∃ (j : Nat) (dj : List Own1), vj = .int .i64 (j : Int) ∧ j ≤ k ∧ Hid (ST w g (k + 1) c' dj wl ∧ (∃ D : List Own1, D = dj.set j x ∧ D.Perm (ds.take (k + 1)) ∧ InJ D 0 k j))) (fun vj _ => (intOf vj).toNat)
      case atStart => exact ⟨k, dk ++ [x], rfl, Nat.le_refl _, HJ0.out⟩
      case round =>
        obtain ⟨j, dj, rfl, hjk, HJ⟩ := hrel
        clear HJ0
        obtain ⟨hst, D, hD, hDp, hDi⟩ := HJ.out
        have hd1 := kp_cell hst.bel HCX.out
        have hexit : (j = 0 ∨ ∃ y, dj[j - 1]? = some y ∧ ¬ Lib.compareBytes x.2.2.2 y.2.2.2 < 0) → Hid (D.Perm (ds.take (k + 1)) ∧ Srt leR D 0 (k + 1)) := fun h => by
          refine ⟨hDp, ?_⟩
          rcases h with rfl | ⟨y, hy, hc⟩
          · exact inj_first hDi
          · by_cases hj0 : j = 0
            · subst hj0; exact inj_first hDi
            · obtain ⟨q, rfl⟩ : ∃ q, j = q + 1 := ⟨j - 1, by omega⟩
              have hl := hst.len
              refine inj_stop (x := y) (y := x) hDi (Nat.zero_le _) ?_ ?_ (leR_of_not hc)
              · rw [hD, List.getElem?_set_ne (by omega)]; exact hy
              · rw [hD, List.getElem?_set_self (by omega)]
        have HEX := Lib.hid hexit
        have HSS := Lib.hid hst
        have HDD := Lib.hid hD
        obtain ⟨v0, hv0⟩ := hst.get (show j < k + 1 by omega)
        have cj := hst.cell hv0
        have fj := hst.free j
        have HFIN : Hid (∀ kk, ST w g (k + 1) c' D (((wr.drewN kk)).setCell ⟨g, j, none⟩ (.slice x.1 x.2.1 x.2.2.1))) := fun kk => by
          have h9 := hst.drewN kk
          refine ⟨?_, kp_set h9.bel h9.ge, fun z hz => ?_⟩
          · rw [hD]
            have := h9.own.stored j x.val
            rw [← List.map_set] at this
            exact this
          · rw [hDp.mem_iff] at hz
            exact HP.out.ok z (List.mem_of_mem_take hz)
        by_cases hj0 : 0 < j
        · obtain ⟨q, rfl⟩ : ∃ q, j = q + 1 := ⟨j - 1, by omega⟩
          obtain ⟨y, hy⟩ := hst.get (show q < k + 1 by omega)
          have cq := hst.cell hy
          have CC := Lib.hid (fun kk => (ahead_any x.1 y.1 x.2.1 x.2.2.1 y.2.1 y.2.2.1 x.2.2.2 y.2.2.2 (wr.drewN kk) ((HP.out.ok x (List.mem_of_getElem? HX.out)).below (hst.drewN kk).bel) (hst.rb hy (hst.drewN kk).bel)).mono (R' := fun e w' => e = .returned (.bool (decide (Lib.compareBytes x.2.2.2 y.2.2.2 < 0))) ∧ w' = wr.drewN kk) fun e w' h => ⟨h.1, h.2.symm⟩)
          have HNX : Hid (Lib.compareBytes x.2.2.2 y.2.2.2 < 0 → ∀ kk, ST w g (k + 1) c' (dj.set (q + 1) y) ((wr.drewN kk).setCell ⟨g, q + 1, none⟩ (.slice y.1 y.2.1 y.2.2.1)) ∧ (∃ D : List Own1, D = (dj.set (q + 1) y).set q x ∧ D.Perm (ds.take (k + 1)) ∧ InJ D 0 k q)) := fun hc kk => by
            have h9 := hst.drewN kk
            have hl := hst.len
            refine ⟨⟨?_, kp_set h9.bel h9.ge, fun z hz => ?_⟩, _, rfl, ?_, ?_⟩
            · have := h9.own.stored (q + 1) y.val
              rw [← List.map_set] at this
              exact this
            · rcases List.mem_or_eq_of_mem_set hz with hz | rfl
              · exact hst.ok z hz
              · exact hst.ok _ (List.mem_of_getElem? hy)
            all_goals
              have e1 : D[q + 1]? = some x := by rw [hD, List.getElem?_set_self (by omega)]
              have e2 : D[q]? = some y := by rw [hD, List.getElem?_set_ne (by omega)]; exact hy
              have e3 : dj.set (q + 1) y = D.set (q + 1) y := by rw [hD, List.set_set]
              rw [e3]
            · exact (swap_perm D (q + 1) q x y e1 e2).trans hDp
            · exact inj_step hDi (Nat.zero_le _) hjk e2 e1 (leR_of_lt hc)
          have HEX2 := Lib.hid (fun hc => hexit (.inr ⟨y, by rw [Nat.add_sub_cancel]; exact hy, hc⟩))
          clear hst hD hDp hDi hexit hy hv0
          have i1 : (q : Int) + 1 < (k : Int) + 1 := by omega
          have i2 : (q : Int) < (k : Int) + 1 := by omega
          have i3 : ((q : Int) + 1).toNat = q + 1 := by omega
          have i4 : (0 : Int) ≤ (q : Int) + 1 := by omega
          have w1 : IntKind.i64.wrap ((q : Int) + 1 - 1) = (q : Int) := by rw [IntKind.wrap_i64]; omega
          have w2 : IntKind.i64.wrap (q : Int) = (q : Int) := by rw [IntKind.wrap_i64]; omega
          have i6 : (0 : Int) ≤ (q : Int) := by omega
          have i7 : ((q : Int)).toNat = q := by omega
          have i8 : (0 : Int) < (q : Int) + 1 := by omega
          have i9 : decide ((q : Int) + 1 > 0) = true := by simp <;> omega
          have i10 : (k : Int) < (n : Int) := by omega
          by_cases hc : Lib.compareBytes x.2.2.2 y.2.2.2 < 0
          · have hd : decide (Lib.compareBytes x.2.2.2 y.2.2.2 < 0) = true := by simpa using hc
            have HN := Lib.hid (HNX.out hc)
            go_wp2_with fail
            go_quiet ((go_at_call 41; exact Calls.quiet_of_same (CC.out _)))
            clear i9
            go_wp2
            go_roundw
            case rel => exact ⟨q, _, by go_num, by omega, HN.out _⟩
            case measure => (first | (simp [intOf]; done) | (simp [intOf]; omega))
          · have hd : decide (Lib.compareBytes x.2.2.2 y.2.2.2 < 0) = false := by simpa using hc
            have HN := Lib.hid (HEX2.out hc)
            go_wp2_with fail
            go_quiet ((go_at_call 41; exact Calls.quiet_of_same (CC.out _)))
            clear i9
            go_wp2
            go_roundw
            case rel => exact ⟨k + 1, some ⟨g, 0, none⟩, c', D, rfl, by go_num, by omega, (HFIN.out _).own, (HFIN.out _).bel, HN.out⟩
            case measure => (first | (simp [intOf]; done) | (simp [intOf]; omega))
        · obtain rfl : j = 0 := by omega
          have HN := Lib.hid (hexit (.inl rfl))
          clear hst hD hDp hDi hexit hv0
          have i10 : (k : Int) < (n : Int) := by omega
          have i9 : decide ((0 : Int) > 0) = false := by simp
          go_wp2_with fail
          go_quiet (fail)
          go_wp2
          go_roundw
          case rel => exact ⟨k + 1, some ⟨g, 0, none⟩, c', D, rfl, by go_num, by omega, (HFIN.out _).own, (HFIN.out _).bel, HN.out⟩
          case measure => (first | (simp [intOf]; done) | (simp [intOf]; omega))
    · obtain rfl : k = n := by omega
      have hdl : dk.length = k := by have := hown.len; simpa using this
      have hpm : dk.Perm ds := by
        have := HK.out.1
        rwa [List.take_of_length_le (by rw [HP.out.len]; exact Nat.le_refl _)] at this
      have HQ : Hid (flat dk = (sortQ (ds.map txt)).flatten) := by
        unfold Hid flat
        rw [sortQ_of hdl hpm HK.out.2]
      rename World => wq
      have hP2 : PR wq A2 k dk := ⟨hdl, hown.reads, fun x hx => (HP.out.ok x (hpm.mem_iff.1 hx)).below hb⟩
      have HP2 := Lib.hid hP2
      have hln : (flat dk).length ≤ 140737488355328 := by rw [flat_len_perm hpm]; exact HL.out
      have HLN := Lib.hid (fun j (hj : j ≤ k) => show (joinN (fun r => (dk.getD r Row1.nul).2.2.2) j).length ≤ 140737488355328 from by
        have h1 := joinN_mono (fun r => (dk.getD r Row1.nul).2.2.2) j k hj
        rw [PR.prefix_ hdl k (Nat.le_refl _), List.take_of_length_le (by rw [hdl]; exact Nat.le_refl _)] at h1
        exact Nat.le_trans h1 hln)
      have HFL : Hid (joinN (fun r => (dk.getD r Row1.nul).2.2.2) k = flat dk) := by
        unfold Hid
        rw [PR.prefix_ hdl k (Nat.le_refl _), List.take_of_length_le (by rw [hdl]; exact Nat.le_refl _)]
      have HB := Lib.hid hb
      have hsz := hb.size
      clear hdl hpm hP2 hln hown
      go_wp2
      go_loopw [6, 7] (fun v i wl => ∃ (j : Nat) (A3 : Option Addr) (n3 c3 : Nat), j ≤ k ∧ i = .int .i64 (j : Int) ∧ v = .slice A3 n3 c3 ∧ OwnB wl wq.heap.size A3 n3 c3 (joinN (fun r => (dk.getD r Row1.nul).2.2.2) j) ∧ Below wq.heap.size wq wl) (fun _ i _ => k - (intOf i).toNat)
      case atStart => exact ⟨0, _, _, _, Nat.zero_le _, rfl, rfl, OwnB.nil _ _, Below.refl _ _⟩
      case round =>
        obtain ⟨j, A3, n3, c3, hj, rfl, rfl, hown, hbl⟩ := hrel
        clear hb
        by_cases hlt2 : j < k
        · obtain ⟨z, hz⟩ : ∃ z, dk[j]? = some z := ⟨_, List.getElem?_eq_getElem (by rw [HP2.out.len]; exact hlt2)⟩
          obtain ⟨b, off, rfl, hblt, hc0⟩ := HP2.out.cell hz
          have hcell := kp_cell hbl hc0
          have hR := (HP2.out.ok z (List.mem_of_getElem? hz)).below hbl
          have HZ : Hid (joinN (fun r => (dk.getD r Row1.nul).2.2.2) (j + 1) = joinN (fun r => (dk.getD r Row1.nul).2.2.2) j ++ z.2.2.2) := by
            unfold Hid
            rw [joinN_succ, List.getD_eq_getElem?_getD, hz]
            rfl
          have hle := HLN.out (j + 1) (by omega)
          rw [HZ.out, List.length_append, hR.1, hown.len] at hle
          have hsz2 := hbl.size
          clear hc0 hz
          go_wp2_with (at_builtin; refine wpList_apn _ _ rfl rfl rfl wq.heap.size A3 n3 c3 _ rfl hown z.1 z.2.1 z.2.2.1 z.2.2.2 rfl hR (by omega) (by omega) ?_)
          intro A4 c4 w3 hown3 hg3
          go_wp2
          go_roundw
          case rel => exact ⟨j + 1, A4, _, c4, by omega, by go_num, rfl, by rw [HZ.out]; exact hown3, hbl.grown hg3 (by omega) (fun g hg => (hown.blk_lt hg).1)⟩
          case measure => simp [intOf]; omega
        · obtain rfl : j = k := by omega
          go_wp2
          go_ret
          rw [HFL.out, HQ.out] at hown
          exact ⟨A3, n3, c3, rfl, hown.lower hsz, kp_call HB.out hbl⟩
end Go.Proofs.Ytamkbedbkjndgaa
