/-
  vname: the document's Kind (made by genVnM.py).
-/
import Derived.Test.YtjcbmgpmlekamaaVnM
import Derived.Deep.RegionHeld3
namespace Go.Proofs.Ytjcbmgpmlekamaa
open Go.RowKit Go
set_option linter.unusedVariables false
set_option linter.unusedSimpArgs false
set_option maxRecDepth 100000
theorem quiet_load {P : Program} {ops : Array Oper} {C : World → Prop} {Q : Act → Prop} {a : Act} {o : Oper} {rest : List Oper} (hw : Region.wanted o (yielded ops a.tmps) = true) (ty : TypeId) (x : Operand) (ho : o.op = .load ty x) (g : Nat) (hx : a.eval x = .pointer (some ⟨g, 0, none⟩)) (cs : Array Value)
    (hl : ∀ w, C w → (Instr.loadAt ty (.pointer (some ⟨g, 0, none⟩))).run P w = .ok (.agg cs) w) (h : wpQuiet P ops C Q rest (a.put o.dst (.agg cs))) : wpQuiet P ops C Q (o :: rest) a :=
  wpQuiet_step fun K hK => by
    rw [if_pos hw]
    refine ⟨.agg cs, fun w hc => ?_, hK _ h⟩
    unfold Oper.quietAt execOp
    simp only [ho, Sem.run_bind, Sem.run_pure, Result.andThen_ok, hx, hl w hc]
    exact ⟨rfl, rfl⟩
theorem load_at {W : World} {g : Nat} {cs : Array Value} {t : TypeId} {fr : Nat × Nat} (hg : W.heap[g]? = some (.cells cs t fr)) (hi : (Try.prog.info? 23).map (·.size) = some cs.size) : (Instr.loadAt 23 (.pointer (some ⟨g, 0, none⟩))).run Try.prog W = .ok (.agg cs) W := by
  simp only [Instr.loadAt, Instr.sureAddr, Sem.run_bind, Sem.run_pure, Result.andThen_ok]
  exact run_loadVar_row W g t 23 cs fr _ hg Try.underlying23 rfl hi
theorem load_up {W1 : World} {g : Nat} {cs : Array Value} {t : TypeId} {fr : Nat × Nat} (hg : W1.heap[g]? = some (.cells cs t fr)) (hi : (Try.prog.info? 23).map (·.size) = some cs.size) : ∀ W, (∃ x : Up W1, W = x.w) → (Instr.loadAt 23 (.pointer (some ⟨g, 0, none⟩))).run Try.prog W = .ok (.agg cs) W := by
  rintro W ⟨x, rfl⟩
  exact load_at (x.heap hg) hi
set_option maxHeartbeats 16000000 in
theorem dkind_w (s : ByteArray) (cs : Array Value) (w : World) (hi : (Try.prog.info? 23).map (·.size) = some cs.size) (b1 b2 : Bool) (h12 : b1 = true → b2 = false) (E1 : ∀ W, (Op.equalIn 10000 23 (.agg cs) (.agg gG)).run Try.prog W = .ok b1 W) (E2 : ∀ W, (Op.equalIn 10000 23 (.agg cs) (.agg gS)).run Try.prog W = .ok b2 W)
    (n : Nat → Bool) (hn : ∀ j, j < 9 → (s.toList == (nmK j).toList) = n j) :
    Calls Try.prog 20 #[.string s, .agg cs] w fun e w' => e = .returned (.int .u8 (kindD b1 b2 n)) ∧ Below w.heap.size w w' := by
  have HKD : Hid (∀ x, x = kindD b1 b2 n → x = kindD b1 b2 n) := fun _ h => h
  have s0 : (s.toList == [80, 75]) = n 0 := by
    have h9 := hn 0 (by decide)
    rw [show (nmK 0).toList = [80, 75] by rw [Lib.toList_data]; rfl] at h9
    exact h9
  have s1 : (s.toList == [75, 69, 75]) = n 1 := by
    have h9 := hn 1 (by decide)
    rw [show (nmK 1).toList = [75, 69, 75] by rw [Lib.toList_data]; rfl] at h9
    exact h9
  have s2 : (s.toList == [83, 101, 116, 117, 112, 77, 111, 100, 101]) = n 2 := by
    have h9 := hn 2 (by decide)
    rw [show (nmK 2).toList = [83, 101, 116, 117, 112, 77, 111, 100, 101] by rw [Lib.toList_data]; rfl] at h9
    exact h9
  have s3 : (s.toList == [83, 101, 99, 117, 114, 101, 66, 111, 111, 116]) = n 3 := by
    have h9 := hn 3 (by decide)
    rw [show (nmK 3).toList = [83, 101, 99, 117, 114, 101, 66, 111, 111, 116] by rw [Lib.toList_data]; rfl] at h9
    exact h9
  have s4 : (s.toList == [65, 117, 100, 105, 116, 77, 111, 100, 101]) = n 4 := by
    have h9 := hn 4 (by decide)
    rw [show (nmK 4).toList = [65, 117, 100, 105, 116, 77, 111, 100, 101] by rw [Lib.toList_data]; rfl] at h9
    exact h9
  have s5 : (s.toList == [68, 101, 112, 108, 111, 121, 101, 100, 77, 111, 100, 101]) = n 5 := by
    have h9 := hn 5 (by decide)
    rw [show (nmK 5).toList = [68, 101, 112, 108, 111, 121, 101, 100, 77, 111, 100, 101] by rw [Lib.toList_data]; rfl] at h9
    exact h9
  have s6 : (s.toList == [100, 98]) = n 6 := by
    have h9 := hn 6 (by decide)
    rw [show (nmK 6).toList = [100, 98] by rw [Lib.toList_data]; rfl] at h9
    exact h9
  have s7 : (s.toList == [100, 98, 120]) = n 7 := by
    have h9 := hn 7 (by decide)
    rw [show (nmK 7).toList = [100, 98, 120] by rw [Lib.toList_data]; rfl] at h9
    exact h9
  have s8 : (s.toList == [100, 98, 116]) = n 8 := by
    have h9 := hn 8 (by decide)
    rw [show (nmK 8).toList = [100, 98, 116] by rw [Lib.toList_data]; rfl] at h9
    exact h9
  have HI := Lib.hid hi
  clear hn hi
  obtain ⟨x, hx⟩ : ∃ x, kindD b1 b2 n = x := ⟨_, rfl⟩
  rw [hx]
  unfold kindD at hx
  generalize n 0 = n0 at *
  generalize n 1 = n1 at *
  generalize n 2 = n2 at *
  generalize n 3 = n3 at *
  generalize n 4 = n4 at *
  generalize n 5 = n5 at *
  generalize n 6 = n6 at *
  generalize n 7 = n7 at *
  generalize n 8 = n8 at *
  have HX := Lib.hid hx
  clear hx
  cases b1 with
  | true =>
    obtain rfl : b2 = false := h12 rfl
    clear h12
    cases n0
    · skip
      cases n1
      · skip
        cases n2
        · skip
          cases n3
          · skip
            cases n4
            · skip
              cases n5
              · skip
                go_enter Try.func20, Try.ntmps20
                go_wp2_with fail
                refine wp_nm fun W1 hW1 => ?_
                have hk1 : W1.heap[w.heap.size]? = some (.cells cs 23) := by rw [← hW1]; exact has_new _ _
                have hl := Lib.hid (load_up hk1 HI.out)
                have HB1 : Hid (Below w.heap.size w W1) := by rw [← hW1]; exact kp_alloc (Below.refl _ _) _
                have HK1 := Lib.hid hk1
                clear hW1 hk1
                refine wp_region_up (by kernel_rfl) (by kernel_rfl) ?_
                repeat (first | go_big_quiet_step (first | (go_at_call 8; exact Up.calls (dglobal_any _))) | (refine quiet_load rfl _ _ rfl w.heap.size rfl cs hl.out ?_; simp only [Act.put, List.setIfInBounds_toArray, List.set_cons_zero, List.set_cons_succ]))
                refine wpQuiet_nil ?_
                rintro _ ⟨x1, rfl⟩
                clear hl
                go_wp2_with fail
                refine wp_nm fun W2 hW2 => ?_
                have HK2 : Hid (W2.heap[w.heap.size]? = some (.cells cs 23) ∧ Below w.heap.size w W2) := by rw [← hW2]; exact ⟨x1.heap HK1.out, kp_call HB1.out x1.b⟩
                have hl := Lib.hid (load_up HK2.out.1 HI.out)
                clear hW2
                refine wp_region_up (by kernel_rfl) (by kernel_rfl) ?_
                repeat (first | go_big_quiet_step (first | (go_at_call 9; exact Up.calls (dsecurity_any _))) | (refine quiet_load rfl _ _ rfl w.heap.size rfl cs hl.out ?_; simp only [Act.put, List.setIfInBounds_toArray, List.set_cons_zero, List.set_cons_succ]))
                refine wpQuiet_nil ?_
                rintro _ ⟨x2, rfl⟩
                clear hl
                go_wp2
                go_ret
                exact ⟨by rw [← HX.out]; rfl, kp_call HK2.out.2 x2.b⟩
              · skip
                go_enter Try.func20, Try.ntmps20
                go_wp2_with fail
                refine wp_nm fun W1 hW1 => ?_
                have hk1 : W1.heap[w.heap.size]? = some (.cells cs 23) := by rw [← hW1]; exact has_new _ _
                have hl := Lib.hid (load_up hk1 HI.out)
                have HB1 : Hid (Below w.heap.size w W1) := by rw [← hW1]; exact kp_alloc (Below.refl _ _) _
                have HK1 := Lib.hid hk1
                clear hW1 hk1
                refine wp_region_up (by kernel_rfl) (by kernel_rfl) ?_
                repeat (first | go_big_quiet_step (first | (go_at_call 8; exact Up.calls (dglobal_any _))) | (refine quiet_load rfl _ _ rfl w.heap.size rfl cs hl.out ?_; simp only [Act.put, List.setIfInBounds_toArray, List.set_cons_zero, List.set_cons_succ]))
                refine wpQuiet_nil ?_
                rintro _ ⟨x1, rfl⟩
                clear hl
                go_wp2
                go_ret
                exact ⟨by rw [← HX.out]; rfl, kp_call HB1.out x1.b⟩
            · skip
              go_enter Try.func20, Try.ntmps20
              go_wp2_with fail
              refine wp_nm fun W1 hW1 => ?_
              have hk1 : W1.heap[w.heap.size]? = some (.cells cs 23) := by rw [← hW1]; exact has_new _ _
              have hl := Lib.hid (load_up hk1 HI.out)
              have HB1 : Hid (Below w.heap.size w W1) := by rw [← hW1]; exact kp_alloc (Below.refl _ _) _
              have HK1 := Lib.hid hk1
              clear hW1 hk1
              refine wp_region_up (by kernel_rfl) (by kernel_rfl) ?_
              repeat (first | go_big_quiet_step (first | (go_at_call 8; exact Up.calls (dglobal_any _))) | (refine quiet_load rfl _ _ rfl w.heap.size rfl cs hl.out ?_; simp only [Act.put, List.setIfInBounds_toArray, List.set_cons_zero, List.set_cons_succ]))
              refine wpQuiet_nil ?_
              rintro _ ⟨x1, rfl⟩
              clear hl
              go_wp2
              go_ret
              exact ⟨by rw [← HX.out]; rfl, kp_call HB1.out x1.b⟩
          · skip
            go_enter Try.func20, Try.ntmps20
            go_wp2_with fail
            refine wp_nm fun W1 hW1 => ?_
            have hk1 : W1.heap[w.heap.size]? = some (.cells cs 23) := by rw [← hW1]; exact has_new _ _
            have hl := Lib.hid (load_up hk1 HI.out)
            have HB1 : Hid (Below w.heap.size w W1) := by rw [← hW1]; exact kp_alloc (Below.refl _ _) _
            have HK1 := Lib.hid hk1
            clear hW1 hk1
            refine wp_region_up (by kernel_rfl) (by kernel_rfl) ?_
            repeat (first | go_big_quiet_step (first | (go_at_call 8; exact Up.calls (dglobal_any _))) | (refine quiet_load rfl _ _ rfl w.heap.size rfl cs hl.out ?_; simp only [Act.put, List.setIfInBounds_toArray, List.set_cons_zero, List.set_cons_succ]))
            refine wpQuiet_nil ?_
            rintro _ ⟨x1, rfl⟩
            clear hl
            go_wp2
            go_ret
            exact ⟨by rw [← HX.out]; rfl, kp_call HB1.out x1.b⟩
        · skip
          go_enter Try.func20, Try.ntmps20
          go_wp2_with fail
          refine wp_nm fun W1 hW1 => ?_
          have hk1 : W1.heap[w.heap.size]? = some (.cells cs 23) := by rw [← hW1]; exact has_new _ _
          have hl := Lib.hid (load_up hk1 HI.out)
          have HB1 : Hid (Below w.heap.size w W1) := by rw [← hW1]; exact kp_alloc (Below.refl _ _) _
          have HK1 := Lib.hid hk1
          clear hW1 hk1
          refine wp_region_up (by kernel_rfl) (by kernel_rfl) ?_
          repeat (first | go_big_quiet_step (first | (go_at_call 8; exact Up.calls (dglobal_any _))) | (refine quiet_load rfl _ _ rfl w.heap.size rfl cs hl.out ?_; simp only [Act.put, List.setIfInBounds_toArray, List.set_cons_zero, List.set_cons_succ]))
          refine wpQuiet_nil ?_
          rintro _ ⟨x1, rfl⟩
          clear hl
          go_wp2
          go_ret
          exact ⟨by rw [← HX.out]; rfl, kp_call HB1.out x1.b⟩
      · skip
        go_enter Try.func20, Try.ntmps20
        go_wp2_with fail
        refine wp_nm fun W1 hW1 => ?_
        have hk1 : W1.heap[w.heap.size]? = some (.cells cs 23) := by rw [← hW1]; exact has_new _ _
        have hl := Lib.hid (load_up hk1 HI.out)
        have HB1 : Hid (Below w.heap.size w W1) := by rw [← hW1]; exact kp_alloc (Below.refl _ _) _
        have HK1 := Lib.hid hk1
        clear hW1 hk1
        refine wp_region_up (by kernel_rfl) (by kernel_rfl) ?_
        repeat (first | go_big_quiet_step (first | (go_at_call 8; exact Up.calls (dglobal_any _))) | (refine quiet_load rfl _ _ rfl w.heap.size rfl cs hl.out ?_; simp only [Act.put, List.setIfInBounds_toArray, List.set_cons_zero, List.set_cons_succ]))
        refine wpQuiet_nil ?_
        rintro _ ⟨x1, rfl⟩
        clear hl
        go_wp2
        go_ret
        exact ⟨by rw [← HX.out]; rfl, kp_call HB1.out x1.b⟩
    · skip
      go_enter Try.func20, Try.ntmps20
      go_wp2_with fail
      refine wp_nm fun W1 hW1 => ?_
      have hk1 : W1.heap[w.heap.size]? = some (.cells cs 23) := by rw [← hW1]; exact has_new _ _
      have hl := Lib.hid (load_up hk1 HI.out)
      have HB1 : Hid (Below w.heap.size w W1) := by rw [← hW1]; exact kp_alloc (Below.refl _ _) _
      have HK1 := Lib.hid hk1
      clear hW1 hk1
      refine wp_region_up (by kernel_rfl) (by kernel_rfl) ?_
      repeat (first | go_big_quiet_step (first | (go_at_call 8; exact Up.calls (dglobal_any _))) | (refine quiet_load rfl _ _ rfl w.heap.size rfl cs hl.out ?_; simp only [Act.put, List.setIfInBounds_toArray, List.set_cons_zero, List.set_cons_succ]))
      refine wpQuiet_nil ?_
      rintro _ ⟨x1, rfl⟩
      clear hl
      go_wp2
      go_ret
      exact ⟨by rw [← HX.out]; rfl, kp_call HB1.out x1.b⟩
  | false =>
    clear h12
    cases b2
    · skip
      go_enter Try.func20, Try.ntmps20
      go_wp2_with fail
      refine wp_nm fun W1 hW1 => ?_
      have hk1 : W1.heap[w.heap.size]? = some (.cells cs 23) := by rw [← hW1]; exact has_new _ _
      have hl := Lib.hid (load_up hk1 HI.out)
      have HB1 : Hid (Below w.heap.size w W1) := by rw [← hW1]; exact kp_alloc (Below.refl _ _) _
      have HK1 := Lib.hid hk1
      clear hW1 hk1
      refine wp_region_up (by kernel_rfl) (by kernel_rfl) ?_
      repeat (first | go_big_quiet_step (first | (go_at_call 8; exact Up.calls (dglobal_any _))) | (refine quiet_load rfl _ _ rfl w.heap.size rfl cs hl.out ?_; simp only [Act.put, List.setIfInBounds_toArray, List.set_cons_zero, List.set_cons_succ]))
      refine wpQuiet_nil ?_
      rintro _ ⟨x1, rfl⟩
      clear hl
      go_wp2_with fail
      refine wp_nm fun W2 hW2 => ?_
      have HK2 : Hid (W2.heap[w.heap.size]? = some (.cells cs 23) ∧ Below w.heap.size w W2) := by rw [← hW2]; exact ⟨x1.heap HK1.out, kp_call HB1.out x1.b⟩
      have hl := Lib.hid (load_up HK2.out.1 HI.out)
      clear hW2
      refine wp_region_up (by kernel_rfl) (by kernel_rfl) ?_
      repeat (first | go_big_quiet_step (first | (go_at_call 9; exact Up.calls (dsecurity_any _))) | (refine quiet_load rfl _ _ rfl w.heap.size rfl cs hl.out ?_; simp only [Act.put, List.setIfInBounds_toArray, List.set_cons_zero, List.set_cons_succ]))
      refine wpQuiet_nil ?_
      rintro _ ⟨x2, rfl⟩
      clear hl
      go_wp2
      go_ret
      exact ⟨by rw [← HX.out]; rfl, kp_call HK2.out.2 x2.b⟩
    · skip
      cases n6
      · skip
        cases n7
        · skip
          cases n8
          all_goals
            go_enter Try.func20, Try.ntmps20
            go_wp2_with fail
            refine wp_nm fun W1 hW1 => ?_
            have hk1 : W1.heap[w.heap.size]? = some (.cells cs 23) := by rw [← hW1]; exact has_new _ _
            have hl := Lib.hid (load_up hk1 HI.out)
            have HB1 : Hid (Below w.heap.size w W1) := by rw [← hW1]; exact kp_alloc (Below.refl _ _) _
            have HK1 := Lib.hid hk1
            clear hW1 hk1
            refine wp_region_up (by kernel_rfl) (by kernel_rfl) ?_
            repeat (first | go_big_quiet_step (first | (go_at_call 8; exact Up.calls (dglobal_any _))) | (refine quiet_load rfl _ _ rfl w.heap.size rfl cs hl.out ?_; simp only [Act.put, List.setIfInBounds_toArray, List.set_cons_zero, List.set_cons_succ]))
            refine wpQuiet_nil ?_
            rintro _ ⟨x1, rfl⟩
            clear hl
            go_wp2_with fail
            refine wp_nm fun W2 hW2 => ?_
            have HK2 : Hid (W2.heap[w.heap.size]? = some (.cells cs 23) ∧ Below w.heap.size w W2) := by rw [← hW2]; exact ⟨x1.heap HK1.out, kp_call HB1.out x1.b⟩
            have hl := Lib.hid (load_up HK2.out.1 HI.out)
            clear hW2
            refine wp_region_up (by kernel_rfl) (by kernel_rfl) ?_
            repeat (first | go_big_quiet_step (first | (go_at_call 9; exact Up.calls (dsecurity_any _))) | (refine quiet_load rfl _ _ rfl w.heap.size rfl cs hl.out ?_; simp only [Act.put, List.setIfInBounds_toArray, List.set_cons_zero, List.set_cons_succ]))
            refine wpQuiet_nil ?_
            rintro _ ⟨x2, rfl⟩
            clear hl
            go_wp2
            go_ret
            exact ⟨by rw [← HX.out]; rfl, kp_call HK2.out.2 x2.b⟩
        · skip
          go_enter Try.func20, Try.ntmps20
          go_wp2_with fail
          refine wp_nm fun W1 hW1 => ?_
          have hk1 : W1.heap[w.heap.size]? = some (.cells cs 23) := by rw [← hW1]; exact has_new _ _
          have hl := Lib.hid (load_up hk1 HI.out)
          have HB1 : Hid (Below w.heap.size w W1) := by rw [← hW1]; exact kp_alloc (Below.refl _ _) _
          have HK1 := Lib.hid hk1
          clear hW1 hk1
          refine wp_region_up (by kernel_rfl) (by kernel_rfl) ?_
          repeat (first | go_big_quiet_step (first | (go_at_call 8; exact Up.calls (dglobal_any _))) | (refine quiet_load rfl _ _ rfl w.heap.size rfl cs hl.out ?_; simp only [Act.put, List.setIfInBounds_toArray, List.set_cons_zero, List.set_cons_succ]))
          refine wpQuiet_nil ?_
          rintro _ ⟨x1, rfl⟩
          clear hl
          go_wp2_with fail
          refine wp_nm fun W2 hW2 => ?_
          have HK2 : Hid (W2.heap[w.heap.size]? = some (.cells cs 23) ∧ Below w.heap.size w W2) := by rw [← hW2]; exact ⟨x1.heap HK1.out, kp_call HB1.out x1.b⟩
          have hl := Lib.hid (load_up HK2.out.1 HI.out)
          clear hW2
          refine wp_region_up (by kernel_rfl) (by kernel_rfl) ?_
          repeat (first | go_big_quiet_step (first | (go_at_call 9; exact Up.calls (dsecurity_any _))) | (refine quiet_load rfl _ _ rfl w.heap.size rfl cs hl.out ?_; simp only [Act.put, List.setIfInBounds_toArray, List.set_cons_zero, List.set_cons_succ]))
          refine wpQuiet_nil ?_
          rintro _ ⟨x2, rfl⟩
          clear hl
          go_wp2
          go_ret
          exact ⟨by rw [← HX.out]; rfl, kp_call HK2.out.2 x2.b⟩
      · skip
        go_enter Try.func20, Try.ntmps20
        go_wp2_with fail
        refine wp_nm fun W1 hW1 => ?_
        have hk1 : W1.heap[w.heap.size]? = some (.cells cs 23) := by rw [← hW1]; exact has_new _ _
        have hl := Lib.hid (load_up hk1 HI.out)
        have HB1 : Hid (Below w.heap.size w W1) := by rw [← hW1]; exact kp_alloc (Below.refl _ _) _
        have HK1 := Lib.hid hk1
        clear hW1 hk1
        refine wp_region_up (by kernel_rfl) (by kernel_rfl) ?_
        repeat (first | go_big_quiet_step (first | (go_at_call 8; exact Up.calls (dglobal_any _))) | (refine quiet_load rfl _ _ rfl w.heap.size rfl cs hl.out ?_; simp only [Act.put, List.setIfInBounds_toArray, List.set_cons_zero, List.set_cons_succ]))
        refine wpQuiet_nil ?_
        rintro _ ⟨x1, rfl⟩
        clear hl
        go_wp2_with fail
        refine wp_nm fun W2 hW2 => ?_
        have HK2 : Hid (W2.heap[w.heap.size]? = some (.cells cs 23) ∧ Below w.heap.size w W2) := by rw [← hW2]; exact ⟨x1.heap HK1.out, kp_call HB1.out x1.b⟩
        have hl := Lib.hid (load_up HK2.out.1 HI.out)
        clear hW2
        refine wp_region_up (by kernel_rfl) (by kernel_rfl) ?_
        repeat (first | go_big_quiet_step (first | (go_at_call 9; exact Up.calls (dsecurity_any _))) | (refine quiet_load rfl _ _ rfl w.heap.size rfl cs hl.out ?_; simp only [Act.put, List.setIfInBounds_toArray, List.set_cons_zero, List.set_cons_succ]))
        refine wpQuiet_nil ?_
        rintro _ ⟨x2, rfl⟩
        clear hl
        go_wp2
        go_ret
        exact ⟨by rw [← HX.out]; rfl, kp_call HK2.out.2 x2.b⟩
theorem dkind_any (s : ByteArray) (G : List UInt8) (hG : G.length = 16) (w : World) : Calls Try.prog 20 #[.string s, .agg (gv G)] w fun e w' => e = .returned (.int .u8 (kindOf s G)) ∧ Below w.heap.size w w' :=
  dkind_w s (gv G) w (gv_size G hG) (decide (G = GLb)) (decide (G = SLb)) (fun h => decide_eq_false (fun h2 => by
    have h1 := of_decide_eq_true h
    rw [h1] at h2
    exact absurd h2 (by decide))) (fun W => by rw [← gG_eq]; exact guid_same G GLb hG rfl W 9998) (fun W => by rw [← gS_eq]; exact guid_same G SLb hG rfl W 9998) _ (fun j hj => rfl)
end Go.Proofs.Ytjcbmgpmlekamaa
