/-
  vname: Kind (made by genVn.py).
-/
import Derived.Test.YtjcbmgpmlekamaaVnB
import Derived.Maps.OwnOps
import Derived.Laws.Rows
namespace Go.Proofs.Ytjcbmgpmlekamaa
open Go.RowKit Go
set_option linter.unusedVariables false
set_option linter.unusedSimpArgs false
set_option maxRecDepth 100000
/-- The key that is asked for. -/
def keyOf (s : ByteArray) (cs : Array Value) : Value := .agg (Array.foldl (fun cs x => cs.setIfInBounds (1 + x.snd) x.fst) #[.string s, .int .u8 0, .int .u8 0, .int .u8 0, .int .u8 0, .int .u8 0, .int .u8 0, .int .u8 0, .int .u8 0, .int .u8 0, .int .u8 0, .int .u8 0, .int .u8 0, .int .u8 0, .int .u8 0, .int .u8 0, .int .u8 0] (cs.zipIdx 0) 0 16)
theorem wpList_look {ops : Array Oper} {rest : List Oper} {o : Oper} {a : Act} {w : World} {Q : Exit → Act → World → Prop} (hgd : o.guard = none) (T : TypeId) (m k : Operand) (ho : o.op = .lookup T m k false) (B : Nat) (hm : a.eval m = .map (some B)) (x : Value) (hx : a.eval k = x) (v : Value) (hrun : (Instr.lookup T (.map (some B)) x false).run Try.prog w = .ok v w)
    (h : wpList Try.prog ops Q rest (a.put o.dst v) w) : wpList Try.prog ops Q (o :: rest) a w := by
  refine wpList_plain hgd fun K hK => ?_
  unfold Oper.wp execOp
  simp only [ho, Sem.run_bind, Sem.run_pure, Result.andThen_ok, hm, hx, hrun]
  exact hK _ _ h
theorem run_look {x : Value} {e : Nat → Bool} {v : Value} (he : ∀ j, j < 9 → ∀ w, (Op.equal 44 x (kindK j)).run Try.prog w = .ok (e j) w) (hx : ∃ xs, x = .agg xs) (hck : ∀ w b, (Instr.checkKey b 10000 44 x).run Try.prog w = .ok () w)
    (hv : (∃ j, j < 9 ∧ e j = true ∧ (∀ i, i < 9 → e i = true → i = j) ∧ v = kindV j) ∨ ((∀ j, j < 9 → e j = false) ∧ v = .int .u8 0))
    {w : World} {B clk : Nat} {es : Array MapEntry} {L : Array Bool} (hb : w.heap[B]? = some (.map es clk)) (hm : MapIs L es) (hL : ∀ j, j < 30 → L.getD j false = true) : (Instr.lookup 45 (.map (some B)) x false).run Try.prog w = .ok v w := by
  obtain ⟨r, hr, hq⟩ := findKey_any (w := w) he (fun _ => True) es.toList hx (fun m hmm => by
    obtain ⟨j, h1, h2, h3, h4⟩ := hm.1 m hmm
    exact ⟨j, h1, trivial, h3, h4⟩)
  have hg : (getObj B).run Try.prog w = .ok (.map es clk) w := by simp [getObj, Sem.run, hb]
  have hz : (zeroValue 5).run Try.prog w = .ok (.int .u8 0) w := by kernel_rfl
  unfold Instr.lookup
  simp only [Sem.run_bind, run_underlying und45, Result.andThen_ok, hg, Sem.run_pure, hck, hr]
  cases r with
  | some p =>
    obtain ⟨i, u⟩ := p
    obtain ⟨j, h1, _, h3, h4⟩ := hq
    rcases hv with ⟨j', h5, h6, h7, h8⟩ | ⟨h5, _⟩
    · have := h7 j h1 h3
      subst this
      rw [h8, h4]
      rfl
    · rw [h5 j h1] at h3; cases h3
  | none =>
    rcases hv with ⟨j', h5, h6, h7, h8⟩ | ⟨_, h8⟩
    · obtain ⟨m, hmm, hmk, _⟩ := hm.2 j' h5 (hL _ (by omega))
      rw [hq m hmm j' h5 hmk] at h6
      cases h6
    · subst h8
      simp only [Sem.run_bind, hz, Result.andThen_ok, Sem.run_pure, Bool.false_eq_true, if_false]
set_option maxHeartbeats 32000000 in
theorem kind_any (s : ByteArray) (cs : Array Value) (hs : cs.size = 16) (w : World) (e : Nat → Bool) (v : Value) (he : ∀ j, j < 9 → ∀ w, (Op.equal 44 (keyOf s cs) (kindK j)).run Try.prog w = .ok (e j) w) (hck : ∀ w b, (Instr.checkKey b 10000 44 (keyOf s cs)).run Try.prog w = .ok () w)
    (hv : (∃ j, j < 9 ∧ e j = true ∧ (∀ i, i < 9 → e i = true → i = j) ∧ v = kindV j) ∨ ((∀ j, j < 9 → e j = false) ∧ v = .int .u8 0)) :
    Calls Try.prog 19 #[.string s, .agg cs] w fun e w' => e = .returned v ∧ Below w.heap.size w w' := by
  go_enter Try.func19, Try.ntmps19
  go_wp2_with fail
  refine wp_nm fun w0 hw0 => ?_
  refine wp_region_inv (by kernel_rfl) (by kernel_rfl) (KI s cs w.heap.size w0) ?_ ?_ ?_
  · refine ⟨0, by rfl, kp_drew (Below.refl _ _), ?_, ?_, ?_, ?_⟩ <;> (intro h; first | (exact absurd h (by decide)) | (intro k hk; simp [Array.getD]))
  · rintro L a W i ⟨B, rfl, hI⟩ hC
    have hsz := hC.size
    have hlt := hC.lt
    simp only [List.size_toArray, List.length_cons, List.length_nil] at hsz hlt
    have hi : i < L.size := by omega
    have hnot := hC.not
    rcases (show i = 0 ∨ i = 1 ∨ i = 2 ∨ i = 3 ∨ i = 4 ∨ i = 5 ∨ i = 6 ∨ i = 7 ∨ i = 8 ∨ i = 9 ∨ i = 10 ∨ i = 11 ∨ i = 12 ∨ i = 13 ∨ i = 14 ∨ i = 15 ∨ i = 16 ∨ i = 17 ∨ i = 18 ∨ i = 19 ∨ i = 20 ∨ i = 21 ∨ i = 22 ∨ i = 23 ∨ i = 24 ∨ i = 25 ∨ i = 26 ∨ i = 27 ∨ i = 28 ∨ i = 29 by omega) with rfl | rfl | rfl | rfl | rfl | rfl | rfl | rfl | rfl | rfl | rfl | rfl | rfl | rfl | rfl | rfl | rfl | rfl | rfl | rfl | rfl | rfl | rfl | rfl | rfl | rfl | rfl | rfl | rfl | rfl
    · obtain ⟨h1, h2, h3, h4, h5⟩ := hI
      refine wpOp_step rfl (fun K' hK => ?_)
      have HK := Lib.hid hK
      clear hK
      rw [if_pos (by rfl)]
      have f28 : L.getD 28 false = false := by
        cases h : L.getD 28 false with
        | false => rfl
        | true => have := h2 h; rw [hnot] at this; cases this
      have f29 : L.getD 29 false = false := by
        cases h : L.getD 29 false with
        | false => rfl
        | true => have := h3 h; rw [hnot] at this; cases this
      have hmm := @run_makeMap Try.prog
      go_wp2_with fail
      refine HK.out _ _ ⟨W.heap.size, ?_, kp_alloc h1 _, ?_, ?_, ?_, ?_⟩
      · simp only [TM, Act.put, List.setIfInBounds_toArray, List.set_cons_zero, List.set_cons_succ, gd_same _ _ _ hi]
        simp +decide only [gd_set _ _ _ _ hi]
        simp only [gd, f28, f29, Bool.false_eq_true, if_false]
      · rw [lset L _ _ hi, f28]; intro h; cases h
      · rw [lset L _ _ hi, f29]; intro h; cases h
      · intro _
        refine ⟨h1.size, #[], 0, has_new _ _, fun e he => by simp at he, fun k hk hL => ?_⟩
        rw [lset L _ _ hi, h5 hnot k hk] at hL
        simp at hL
      · intro h; rw [lset L _ _ hi] at h; simp at h
    · have h0 : True := trivial
      refine wpOp_step rfl (fun K' hK => ?_)
      have HK := Lib.hid hK
      clear hK
      rw [if_pos (by rfl)]
      go_wp2_with (go_at_call 17; refine (global_any _).mono ?_; rintro e W' ⟨rfl, hb⟩)
      refine HK.out _ _ (KI.next hI hb hi (fun k hk => by omega) (by decide) (by omega) ?_)
      simp only [TM, Act.put, List.setIfInBounds_toArray, List.set_cons_zero, List.set_cons_succ, gd_same _ _ _ hi]
      simp +decide only [gd_set _ _ _ _ hi]
    · have d1 := hC.dep (j := 1) (by kernel_rfl)
      refine wpOp_step rfl (fun K' hK => ?_)
      have HK := Lib.hid hK
      clear hK
      rw [if_pos (by rfl)]
      simp only [TM, gd_yes _ d1]
      go_wp2_with fail
      refine HK.out _ _ (KI.next hI (Below.refl _ _) hi (fun k hk => by omega) (by decide) (by omega) ?_)
      simp only [TM, gd_same _ _ _ hi]
      simp +decide only [gd_set _ _ _ _ hi]
      simp only [gd_yes _ d1]
      kernel_rfl
    · have d0 := hC.dep (j := 0) (by kernel_rfl)
      have d1 := hC.dep (j := 2) (by kernel_rfl)
      obtain ⟨h1, h2, h3, h4, h5⟩ := hI
      obtain ⟨hB, es, clk, hb, hm⟩ := h4 d0
      have hup := run_upd 0 (by omega) hb hm hnot (.int .u8 1)
      refine wpOp_step rfl (fun K' hK => ?_)
      have HK := Lib.hid hK
      clear hK
      rw [if_pos (by rfl)]
      simp only [TM, gd_yes _ d0, gd_yes _ d1]
      go_wp2_with fail
      refine HK.out _ _ ⟨B, ?_, putM_below h1 hB, ?_, ?_, ?_, ?_⟩
      · simp +decide only [TM, gd_set _ _ _ _ hi]
        simp only [gd_yes _ d0, gd_yes _ d1]
      · rw [lset L _ _ hi, lset L _ _ hi, d0]; simp
      · rw [lset L _ _ hi, lset L _ _ hi, d0]; simp
      · intro _
        exact ⟨hB, _, _, putM_has hb, mapIs_push (k := 0) (by omega) hm hi⟩
      · intro h; rw [lset L _ _ hi, d0] at h; simp at h
    · have h0 : True := trivial
      refine wpOp_step rfl (fun K' hK => ?_)
      have HK := Lib.hid hK
      clear hK
      rw [if_pos (by rfl)]
      go_wp2_with (go_at_call 17; refine (global_any _).mono ?_; rintro e W' ⟨rfl, hb⟩)
      refine HK.out _ _ (KI.next hI hb hi (fun k hk => by omega) (by decide) (by omega) ?_)
      simp only [TM, Act.put, List.setIfInBounds_toArray, List.set_cons_zero, List.set_cons_succ, gd_same _ _ _ hi]
      simp +decide only [gd_set _ _ _ _ hi]
    · have d1 := hC.dep (j := 4) (by kernel_rfl)
      refine wpOp_step rfl (fun K' hK => ?_)
      have HK := Lib.hid hK
      clear hK
      rw [if_pos (by rfl)]
      simp only [TM, gd_yes _ d1]
      go_wp2_with fail
      refine HK.out _ _ (KI.next hI (Below.refl _ _) hi (fun k hk => by omega) (by decide) (by omega) ?_)
      simp only [TM, gd_same _ _ _ hi]
      simp +decide only [gd_set _ _ _ _ hi]
      simp only [gd_yes _ d1]
      kernel_rfl
    · have d0 := hC.dep (j := 0) (by kernel_rfl)
      have d1 := hC.dep (j := 5) (by kernel_rfl)
      obtain ⟨h1, h2, h3, h4, h5⟩ := hI
      obtain ⟨hB, es, clk, hb, hm⟩ := h4 d0
      have hup := run_upd 1 (by omega) hb hm hnot (.int .u8 2)
      refine wpOp_step rfl (fun K' hK => ?_)
      have HK := Lib.hid hK
      clear hK
      rw [if_pos (by rfl)]
      simp only [TM, gd_yes _ d0, gd_yes _ d1]
      go_wp2_with fail
      refine HK.out _ _ ⟨B, ?_, putM_below h1 hB, ?_, ?_, ?_, ?_⟩
      · simp +decide only [TM, gd_set _ _ _ _ hi]
        simp only [gd_yes _ d0, gd_yes _ d1]
      · rw [lset L _ _ hi, lset L _ _ hi, d0]; simp
      · rw [lset L _ _ hi, lset L _ _ hi, d0]; simp
      · intro _
        exact ⟨hB, _, _, putM_has hb, mapIs_push (k := 1) (by omega) hm hi⟩
      · intro h; rw [lset L _ _ hi, d0] at h; simp at h
    · have h0 : True := trivial
      refine wpOp_step rfl (fun K' hK => ?_)
      have HK := Lib.hid hK
      clear hK
      rw [if_pos (by rfl)]
      go_wp2_with (go_at_call 17; refine (global_any _).mono ?_; rintro e W' ⟨rfl, hb⟩)
      refine HK.out _ _ (KI.next hI hb hi (fun k hk => by omega) (by decide) (by omega) ?_)
      simp only [TM, Act.put, List.setIfInBounds_toArray, List.set_cons_zero, List.set_cons_succ, gd_same _ _ _ hi]
      simp +decide only [gd_set _ _ _ _ hi]
    · have d1 := hC.dep (j := 7) (by kernel_rfl)
      refine wpOp_step rfl (fun K' hK => ?_)
      have HK := Lib.hid hK
      clear hK
      rw [if_pos (by rfl)]
      simp only [TM, gd_yes _ d1]
      go_wp2_with fail
      refine HK.out _ _ (KI.next hI (Below.refl _ _) hi (fun k hk => by omega) (by decide) (by omega) ?_)
      simp only [TM, gd_same _ _ _ hi]
      simp +decide only [gd_set _ _ _ _ hi]
      simp only [gd_yes _ d1]
      kernel_rfl
    · have d0 := hC.dep (j := 0) (by kernel_rfl)
      have d1 := hC.dep (j := 8) (by kernel_rfl)
      obtain ⟨h1, h2, h3, h4, h5⟩ := hI
      obtain ⟨hB, es, clk, hb, hm⟩ := h4 d0
      have hup := run_upd 2 (by omega) hb hm hnot (.int .u8 4)
      refine wpOp_step rfl (fun K' hK => ?_)
      have HK := Lib.hid hK
      clear hK
      rw [if_pos (by rfl)]
      simp only [TM, gd_yes _ d0, gd_yes _ d1]
      go_wp2_with fail
      refine HK.out _ _ ⟨B, ?_, putM_below h1 hB, ?_, ?_, ?_, ?_⟩
      · simp +decide only [TM, gd_set _ _ _ _ hi]
        simp only [gd_yes _ d0, gd_yes _ d1]
      · rw [lset L _ _ hi, lset L _ _ hi, d0]; simp
      · rw [lset L _ _ hi, lset L _ _ hi, d0]; simp
      · intro _
        exact ⟨hB, _, _, putM_has hb, mapIs_push (k := 2) (by omega) hm hi⟩
      · intro h; rw [lset L _ _ hi, d0] at h; simp at h
    · have h0 : True := trivial
      refine wpOp_step rfl (fun K' hK => ?_)
      have HK := Lib.hid hK
      clear hK
      rw [if_pos (by rfl)]
      go_wp2_with (go_at_call 17; refine (global_any _).mono ?_; rintro e W' ⟨rfl, hb⟩)
      refine HK.out _ _ (KI.next hI hb hi (fun k hk => by omega) (by decide) (by omega) ?_)
      simp only [TM, Act.put, List.setIfInBounds_toArray, List.set_cons_zero, List.set_cons_succ, gd_same _ _ _ hi]
      simp +decide only [gd_set _ _ _ _ hi]
    · have d1 := hC.dep (j := 10) (by kernel_rfl)
      refine wpOp_step rfl (fun K' hK => ?_)
      have HK := Lib.hid hK
      clear hK
      rw [if_pos (by rfl)]
      simp only [TM, gd_yes _ d1]
      go_wp2_with fail
      refine HK.out _ _ (KI.next hI (Below.refl _ _) hi (fun k hk => by omega) (by decide) (by omega) ?_)
      simp only [TM, gd_same _ _ _ hi]
      simp +decide only [gd_set _ _ _ _ hi]
      simp only [gd_yes _ d1]
      kernel_rfl
    · have d0 := hC.dep (j := 0) (by kernel_rfl)
      have d1 := hC.dep (j := 11) (by kernel_rfl)
      obtain ⟨h1, h2, h3, h4, h5⟩ := hI
      obtain ⟨hB, es, clk, hb, hm⟩ := h4 d0
      have hup := run_upd 3 (by omega) hb hm hnot (.int .u8 4)
      refine wpOp_step rfl (fun K' hK => ?_)
      have HK := Lib.hid hK
      clear hK
      rw [if_pos (by rfl)]
      simp only [TM, gd_yes _ d0, gd_yes _ d1]
      go_wp2_with fail
      refine HK.out _ _ ⟨B, ?_, putM_below h1 hB, ?_, ?_, ?_, ?_⟩
      · simp +decide only [TM, gd_set _ _ _ _ hi]
        simp only [gd_yes _ d0, gd_yes _ d1]
      · rw [lset L _ _ hi, lset L _ _ hi, d0]; simp
      · rw [lset L _ _ hi, lset L _ _ hi, d0]; simp
      · intro _
        exact ⟨hB, _, _, putM_has hb, mapIs_push (k := 3) (by omega) hm hi⟩
      · intro h; rw [lset L _ _ hi, d0] at h; simp at h
    · have h0 : True := trivial
      refine wpOp_step rfl (fun K' hK => ?_)
      have HK := Lib.hid hK
      clear hK
      rw [if_pos (by rfl)]
      go_wp2_with (go_at_call 17; refine (global_any _).mono ?_; rintro e W' ⟨rfl, hb⟩)
      refine HK.out _ _ (KI.next hI hb hi (fun k hk => by omega) (by decide) (by omega) ?_)
      simp only [TM, Act.put, List.setIfInBounds_toArray, List.set_cons_zero, List.set_cons_succ, gd_same _ _ _ hi]
      simp +decide only [gd_set _ _ _ _ hi]
    · have d1 := hC.dep (j := 13) (by kernel_rfl)
      refine wpOp_step rfl (fun K' hK => ?_)
      have HK := Lib.hid hK
      clear hK
      rw [if_pos (by rfl)]
      simp only [TM, gd_yes _ d1]
      go_wp2_with fail
      refine HK.out _ _ (KI.next hI (Below.refl _ _) hi (fun k hk => by omega) (by decide) (by omega) ?_)
      simp only [TM, gd_same _ _ _ hi]
      simp +decide only [gd_set _ _ _ _ hi]
      simp only [gd_yes _ d1]
      kernel_rfl
    · have d0 := hC.dep (j := 0) (by kernel_rfl)
      have d1 := hC.dep (j := 14) (by kernel_rfl)
      obtain ⟨h1, h2, h3, h4, h5⟩ := hI
      obtain ⟨hB, es, clk, hb, hm⟩ := h4 d0
      have hup := run_upd 4 (by omega) hb hm hnot (.int .u8 4)
      refine wpOp_step rfl (fun K' hK => ?_)
      have HK := Lib.hid hK
      clear hK
      rw [if_pos (by rfl)]
      simp only [TM, gd_yes _ d0, gd_yes _ d1]
      go_wp2_with fail
      refine HK.out _ _ ⟨B, ?_, putM_below h1 hB, ?_, ?_, ?_, ?_⟩
      · simp +decide only [TM, gd_set _ _ _ _ hi]
        simp only [gd_yes _ d0, gd_yes _ d1]
      · rw [lset L _ _ hi, lset L _ _ hi, d0]; simp
      · rw [lset L _ _ hi, lset L _ _ hi, d0]; simp
      · intro _
        exact ⟨hB, _, _, putM_has hb, mapIs_push (k := 4) (by omega) hm hi⟩
      · intro h; rw [lset L _ _ hi, d0] at h; simp at h
    · have h0 : True := trivial
      refine wpOp_step rfl (fun K' hK => ?_)
      have HK := Lib.hid hK
      clear hK
      rw [if_pos (by rfl)]
      go_wp2_with (go_at_call 17; refine (global_any _).mono ?_; rintro e W' ⟨rfl, hb⟩)
      refine HK.out _ _ (KI.next hI hb hi (fun k hk => by omega) (by decide) (by omega) ?_)
      simp only [TM, Act.put, List.setIfInBounds_toArray, List.set_cons_zero, List.set_cons_succ, gd_same _ _ _ hi]
      simp +decide only [gd_set _ _ _ _ hi]
    · have d1 := hC.dep (j := 16) (by kernel_rfl)
      refine wpOp_step rfl (fun K' hK => ?_)
      have HK := Lib.hid hK
      clear hK
      rw [if_pos (by rfl)]
      simp only [TM, gd_yes _ d1]
      go_wp2_with fail
      refine HK.out _ _ (KI.next hI (Below.refl _ _) hi (fun k hk => by omega) (by decide) (by omega) ?_)
      simp only [TM, gd_same _ _ _ hi]
      simp +decide only [gd_set _ _ _ _ hi]
      simp only [gd_yes _ d1]
      kernel_rfl
    · have d0 := hC.dep (j := 0) (by kernel_rfl)
      have d1 := hC.dep (j := 17) (by kernel_rfl)
      obtain ⟨h1, h2, h3, h4, h5⟩ := hI
      obtain ⟨hB, es, clk, hb, hm⟩ := h4 d0
      have hup := run_upd 5 (by omega) hb hm hnot (.int .u8 4)
      refine wpOp_step rfl (fun K' hK => ?_)
      have HK := Lib.hid hK
      clear hK
      rw [if_pos (by rfl)]
      simp only [TM, gd_yes _ d0, gd_yes _ d1]
      go_wp2_with fail
      refine HK.out _ _ ⟨B, ?_, putM_below h1 hB, ?_, ?_, ?_, ?_⟩
      · simp +decide only [TM, gd_set _ _ _ _ hi]
        simp only [gd_yes _ d0, gd_yes _ d1]
      · rw [lset L _ _ hi, lset L _ _ hi, d0]; simp
      · rw [lset L _ _ hi, lset L _ _ hi, d0]; simp
      · intro _
        exact ⟨hB, _, _, putM_has hb, mapIs_push (k := 5) (by omega) hm hi⟩
      · intro h; rw [lset L _ _ hi, d0] at h; simp at h
    · have h0 : True := trivial
      refine wpOp_step rfl (fun K' hK => ?_)
      have HK := Lib.hid hK
      clear hK
      rw [if_pos (by rfl)]
      go_wp2_with (go_at_call 18; refine (security_any _).mono ?_; rintro e W' ⟨rfl, hb⟩)
      refine HK.out _ _ (KI.next hI hb hi (fun k hk => by omega) (by decide) (by omega) ?_)
      simp only [TM, Act.put, List.setIfInBounds_toArray, List.set_cons_zero, List.set_cons_succ, gd_same _ _ _ hi]
      simp +decide only [gd_set _ _ _ _ hi]
    · have d1 := hC.dep (j := 19) (by kernel_rfl)
      refine wpOp_step rfl (fun K' hK => ?_)
      have HK := Lib.hid hK
      clear hK
      rw [if_pos (by rfl)]
      simp only [TM, gd_yes _ d1]
      go_wp2_with fail
      refine HK.out _ _ (KI.next hI (Below.refl _ _) hi (fun k hk => by omega) (by decide) (by omega) ?_)
      simp only [TM, gd_same _ _ _ hi]
      simp +decide only [gd_set _ _ _ _ hi]
      simp only [gd_yes _ d1]
      kernel_rfl
    · have d0 := hC.dep (j := 0) (by kernel_rfl)
      have d1 := hC.dep (j := 20) (by kernel_rfl)
      obtain ⟨h1, h2, h3, h4, h5⟩ := hI
      obtain ⟨hB, es, clk, hb, hm⟩ := h4 d0
      have hup := run_upd 6 (by omega) hb hm hnot (.int .u8 3)
      refine wpOp_step rfl (fun K' hK => ?_)
      have HK := Lib.hid hK
      clear hK
      rw [if_pos (by rfl)]
      simp only [TM, gd_yes _ d0, gd_yes _ d1]
      go_wp2_with fail
      refine HK.out _ _ ⟨B, ?_, putM_below h1 hB, ?_, ?_, ?_, ?_⟩
      · simp +decide only [TM, gd_set _ _ _ _ hi]
        simp only [gd_yes _ d0, gd_yes _ d1]
      · rw [lset L _ _ hi, lset L _ _ hi, d0]; simp
      · rw [lset L _ _ hi, lset L _ _ hi, d0]; simp
      · intro _
        exact ⟨hB, _, _, putM_has hb, mapIs_push (k := 6) (by omega) hm hi⟩
      · intro h; rw [lset L _ _ hi, d0] at h; simp at h
    · have h0 : True := trivial
      refine wpOp_step rfl (fun K' hK => ?_)
      have HK := Lib.hid hK
      clear hK
      rw [if_pos (by rfl)]
      go_wp2_with (go_at_call 18; refine (security_any _).mono ?_; rintro e W' ⟨rfl, hb⟩)
      refine HK.out _ _ (KI.next hI hb hi (fun k hk => by omega) (by decide) (by omega) ?_)
      simp only [TM, Act.put, List.setIfInBounds_toArray, List.set_cons_zero, List.set_cons_succ, gd_same _ _ _ hi]
      simp +decide only [gd_set _ _ _ _ hi]
    · have d1 := hC.dep (j := 22) (by kernel_rfl)
      refine wpOp_step rfl (fun K' hK => ?_)
      have HK := Lib.hid hK
      clear hK
      rw [if_pos (by rfl)]
      simp only [TM, gd_yes _ d1]
      go_wp2_with fail
      refine HK.out _ _ (KI.next hI (Below.refl _ _) hi (fun k hk => by omega) (by decide) (by omega) ?_)
      simp only [TM, gd_same _ _ _ hi]
      simp +decide only [gd_set _ _ _ _ hi]
      simp only [gd_yes _ d1]
      kernel_rfl
    · have d0 := hC.dep (j := 0) (by kernel_rfl)
      have d1 := hC.dep (j := 23) (by kernel_rfl)
      obtain ⟨h1, h2, h3, h4, h5⟩ := hI
      obtain ⟨hB, es, clk, hb, hm⟩ := h4 d0
      have hup := run_upd 7 (by omega) hb hm hnot (.int .u8 3)
      refine wpOp_step rfl (fun K' hK => ?_)
      have HK := Lib.hid hK
      clear hK
      rw [if_pos (by rfl)]
      simp only [TM, gd_yes _ d0, gd_yes _ d1]
      go_wp2_with fail
      refine HK.out _ _ ⟨B, ?_, putM_below h1 hB, ?_, ?_, ?_, ?_⟩
      · simp +decide only [TM, gd_set _ _ _ _ hi]
        simp only [gd_yes _ d0, gd_yes _ d1]
      · rw [lset L _ _ hi, lset L _ _ hi, d0]; simp
      · rw [lset L _ _ hi, lset L _ _ hi, d0]; simp
      · intro _
        exact ⟨hB, _, _, putM_has hb, mapIs_push (k := 7) (by omega) hm hi⟩
      · intro h; rw [lset L _ _ hi, d0] at h; simp at h
    · have h0 : True := trivial
      refine wpOp_step rfl (fun K' hK => ?_)
      have HK := Lib.hid hK
      clear hK
      rw [if_pos (by rfl)]
      go_wp2_with (go_at_call 18; refine (security_any _).mono ?_; rintro e W' ⟨rfl, hb⟩)
      refine HK.out _ _ (KI.next hI hb hi (fun k hk => by omega) (by decide) (by omega) ?_)
      simp only [TM, Act.put, List.setIfInBounds_toArray, List.set_cons_zero, List.set_cons_succ, gd_same _ _ _ hi]
      simp +decide only [gd_set _ _ _ _ hi]
    · have d1 := hC.dep (j := 25) (by kernel_rfl)
      refine wpOp_step rfl (fun K' hK => ?_)
      have HK := Lib.hid hK
      clear hK
      rw [if_pos (by rfl)]
      simp only [TM, gd_yes _ d1]
      go_wp2_with fail
      refine HK.out _ _ (KI.next hI (Below.refl _ _) hi (fun k hk => by omega) (by decide) (by omega) ?_)
      simp only [TM, gd_same _ _ _ hi]
      simp +decide only [gd_set _ _ _ _ hi]
      simp only [gd_yes _ d1]
      kernel_rfl
    · have d0 := hC.dep (j := 0) (by kernel_rfl)
      have d1 := hC.dep (j := 26) (by kernel_rfl)
      obtain ⟨h1, h2, h3, h4, h5⟩ := hI
      obtain ⟨hB, es, clk, hb, hm⟩ := h4 d0
      have hup := run_upd 8 (by omega) hb hm hnot (.int .u8 3)
      refine wpOp_step rfl (fun K' hK => ?_)
      have HK := Lib.hid hK
      clear hK
      rw [if_pos (by rfl)]
      simp only [TM, gd_yes _ d0, gd_yes _ d1]
      go_wp2_with fail
      refine HK.out _ _ ⟨B, ?_, putM_below h1 hB, ?_, ?_, ?_, ?_⟩
      · simp +decide only [TM, gd_set _ _ _ _ hi]
        simp only [gd_yes _ d0, gd_yes _ d1]
      · rw [lset L _ _ hi, lset L _ _ hi, d0]; simp
      · rw [lset L _ _ hi, lset L _ _ hi, d0]; simp
      · intro _
        exact ⟨hB, _, _, putM_has hb, mapIs_push (k := 8) (by omega) hm hi⟩
      · intro h; rw [lset L _ _ hi, d0] at h; simp at h
    · have d0 := hC.dep (j := 0) (by kernel_rfl)
      refine wpOp_step rfl (fun K' hK => ?_)
      have HK := Lib.hid hK
      clear hK
      rw [if_pos (by rfl)]
      simp only [TM, gd_yes _ d0]
      go_wp2_with fail
      refine HK.out _ _ (KI.next hI (Below.refl _ _) hi (fun k hk => by omega) (by decide) (fun _ => d0) ?_)
      simp only [TM, gd_same _ _ _ hi]
      simp +decide only [gd_set _ _ _ _ hi]
      simp only [gd_yes _ d0]
    · have d0 := hC.dep (j := 0) (by kernel_rfl)
      have d28 := hC.dep (j := 28) (by kernel_rfl)
      refine wpOp_step rfl (fun K' hK => ?_)
      have HK := Lib.hid hK
      clear hK
      rw [if_pos (by rfl)]
      simp only [TM, gd_yes _ d28]
      go_wp2_with fail
      refine HK.out _ _ (KI.next hI (Below.refl _ _) hi (fun k hk => by omega) (by decide) (fun _ => d0) ?_)
      simp only [TM, gd_same _ _ _ hi]
      simp +decide only [gd_set _ _ _ _ hi]
      simp only [gd_yes _ d28]
  · rintro L a W ⟨B, rfl, h1, h2, h3, h4, h5⟩ hsz hall
    have hall' : ∀ j, j < 30 → L.getD j false = true := hall
    obtain ⟨hB, es, clk, hb, hm⟩ := h4 (hall' 0 (by decide))
    have hgd : ∀ j, j < 30 → ∀ v, gd L j v = v := fun j hj v => gd_yes v (hall' j hj)
    have HLK := Lib.hid (run_look he ⟨_, rfl⟩ hck hv hb hm hall')
    have hbox : W.heap[w.heap.size]? = some (.cells cs 23) := has_below (by rw [← hw0]; exact has_new _ _) h1
    have HBOX := Lib.hid hbox
    have HB : Hid (Below w.heap.size w W) := kp_call (by rw [← hw0]; exact kp_alloc (Below.refl _ _) _) h1
    have hinfo : (Try.prog.info? 23).map (·.size) = some cs.size := by rw [hs]; kernel_rfl
    have HI := Lib.hid hinfo
    clear hall hall' h1 h2 h3 h4 h5 hb hm hbox hinfo hw0 he hck hv
    simp +decide only [TM, hgd]
    go_wp2_with (first | (at_lookup; refine wpList_look rfl _ _ _ rfl B rfl (keyOf s cs) rfl v HLK.out ?_) | (refine wpList_load_row rfl _ _ rfl w.heap.size rfl _ _ _ _ HBOX.out Try.underlying23 rfl HI.out ?_))
    go_ret
    exact ⟨rfl, HB.out⟩
end Go.Proofs.Ytjcbmgpmlekamaa
