/-
  der: the list of pieces.
-/
import Derived.Test.YtamkbedbkjndgaaDrG
namespace Go.Proofs.Ytamkbedbkjndgaa
open Go.RowKit Go
set_option linter.unusedVariables false
set_option maxRecDepth 100000
attribute [local go_sem] Oper.semAt_some
theorem pv_row : RowT 56 60 2 48 (.agg #[.slice none 0 0, .slice none 0 0]) := ⟨Try.underlying56, by kernel_rfl, rfl, by decide⟩
theorem putObj_grown (W : World) (b : Nat) (o : Obj) : W.grownBy (W.putObj b o) (some b) := grownBy_putObj' W b o
/-- The state of the loop: what lies in the four blocks that the call made. -/
structure LI (w : World) (n0 : Nat) (pre : List (Option PV)) (W : World) : Prop where
  ex : ∃ (ps : List PV) (A : Option Addr) (m c : Nat), pre = ps.map some ∧ W.heap[w.heap.size + 2]? = some (.cells #[.slice A m c] 56) ∧ OwnR W (w.heap.size + 6) 60 2 A m c (ps.flatMap PV.cells)
  h0 : W.heap[w.heap.size]? = some (.cells #[.slice none 0 0] 56)
  h1 : W.heap[w.heap.size + 1]? = some (.cells #[.int .i64 0] 27)
  b : Below w.heap.size w W
theorem LI.grown {w : World} {n0 : Nat} {pre : List (Option PV)} {W W' : World} {b : Nat} (h : LI w n0 pre W) (hg : W.grownBy W' (some b)) (h3 : w.heap.size + 3 ≤ b) (h6 : b < w.heap.size + 6) : LI w n0 pre W' := by
  obtain ⟨⟨ps, A, m, c, e, h2, ho⟩, ha, hb, hbl⟩ := h
  have hk : ∀ j o, W.heap[j]? = some o → j ≠ b → W'.heap[j]? = some o := fun j o hj hne => (hg.block j (block_lt hj) (fun e => hne (by injection e))).trans hj
  exact ⟨⟨ps, A, m, c, e, hk _ _ h2 (by omega), ho.kept hg (.inr (fun e => by have := (ho.blk_lt e).1; omega))⟩, hk _ _ ha (by omega), hk _ _ hb (by omega), hbl.grown hg hbl.size (fun g hg => by injection hg with hg; omega)⟩
theorem LI.drewN {w : World} {n0 : Nat} {pre : List (Option PV)} {W : World} (h : LI w n0 pre W) (k : Nat) : LI w n0 pre (W.drewN k) := ⟨h.ex, h.h0, h.h1, kp_drewN h.b k⟩
theorem LI.drew {w : World} {n0 : Nat} {pre : List (Option PV)} {W : World} (h : LI w n0 pre W) : LI w n0 pre W.drew := ⟨h.ex, h.h0, h.h1, h.b.drew⟩
theorem LI.alloc {w : World} {n0 : Nat} {pre : List (Option PV)} {W : World} (h : LI w n0 pre W) (o : Obj) : LI w n0 pre (W.alloc o) := by
  obtain ⟨⟨ps, A, m, c, e, h2, ho⟩, ha, hb, hbl⟩ := h
  exact ⟨⟨ps, A, m, c, e, has_alloc h2 _, ho.alloc _⟩, has_alloc ha _, has_alloc hb _, kp_alloc hbl _⟩
/-- The state behind a round that gave up. -/
structure LX (w : World) (pre : List (Option PV)) (W : World) : Prop where
  ex : ∃ ps : List PV, pre = ps.map some ++ [none]
  h0 : W.heap[w.heap.size]? = some (.cells #[.slice none 0 0] 56)
  h1 : W.heap[w.heap.size + 1]? = some (.cells #[.int .i64 9] 27)
  b : Below w.heap.size w W
theorem LX.grown {w : World} {pre : List (Option PV)} {W W' : World} {b : Nat} (h : LX w pre W) (hg : W.grownBy W' (some b)) (h3 : w.heap.size + 3 ≤ b) : LX w pre W' := by
  obtain ⟨e, ha, hb, hbl⟩ := h
  have hk : ∀ j o, W.heap[j]? = some o → j ≠ b → W'.heap[j]? = some o := fun j o hj hne => (hg.block j (block_lt hj) (fun e => hne (by injection e))).trans hj
  exact ⟨e, hk _ _ ha (by omega), hk _ _ hb (by omega), hbl.grown hg hbl.size (fun g hg => by injection hg with hg; omega)⟩
theorem map_some_inj {α : Type} : ∀ {a b : List α}, a.map some = b.map some → a = b
  | [], [], _ => rfl
  | [], _ :: _, h => by simp at h
  | _ :: _, [], h => by simp at h
  | x :: a, y :: b, h => by
    simp only [List.map_cons, List.cons.injEq, Option.some.injEq] at h
    rw [h.1, map_some_inj h.2]
theorem map_some_none {α : Type} {a b : List α} (h : a.map some ++ [none] = b.map some) : False := by
  have h1 : (none : Option α) ∈ b.map some := by rw [← h]; simp
  simp at h1
def ListPost (w : World) (m : Nat) (bs : List UInt8) (e : Ending) (w' : World) : Prop :=
  (match allQ bs with
    | none => e = .returned (.tuple #[.slice none 0 0, .int .i64 9])
    | some l => ∃ (A : Option Addr) (n c : Nat) (ps : List PV), e = .returned (.tuple #[.slice A n c, .int .i64 0]) ∧ ps.map (fun p => (p.raw, p.body)) = l ∧ (∀ p ∈ ps, p.Ok w m) ∧ OwnR w' w.heap.size 60 2 A n c (ps.flatMap PV.cells)) ∧ Below w.heap.size w w'
set_option maxHeartbeats 2000000 in
theorem list_any (A0 : Option Addr) (n0 c0 : Nat) (bs : List UInt8) (w : World) (hR0 : RB w A0 n0 bs) (hnc : n0 ≤ c0) (hn : n0 ≤ 1000000000) (hc : c0 ≤ 9223372036854775807) :
    Calls Try.prog 32 #[.slice A0 n0 c0] w (ListPost w n0 bs) := by
  refine (callsIn_wide (n := 4)).1 ?_
  refine callsIn_of_wp_marks Try.func32 rfl trivial ?_ rfl
  simp only [Try.ntmps32, List.size_toArray, List.length_cons, List.length_nil, Nat.reduceAdd, Nat.reduceSub, Array.replicate_succ, Array.replicate_zero, List.push_toArray, List.append_toArray, List.nil_append, List.cons_append]
  gi_wp2_with (refine ⟨trivial, ?_⟩; gi_at_call 49; refine (callsIn_wide.2 (pieces_any _ _ _ _)).mono ?_; rintro e w' ⟨rfl, rfl⟩)
  simp only [Nat.add_assoc, Nat.reduceAdd]
  refine wpIn_nm fun W0 hW0 => ?_
  have k0 : W0.heap[w.heap.size]? = some (.cells #[.slice none 0 0] 56) := by rw [← hW0]; exact has_alloc (has_alloc (has_alloc (has_new w _) _) _) _
  have k1 : W0.heap[w.heap.size + 1]? = some (.cells #[.int .i64 0] 27) := by rw [← hW0]; exact has_alloc (has_alloc (has_new' _ _ _ (by simp)) _) _
  have k2 : W0.heap[w.heap.size + 2]? = some (.cells #[.slice none 0 0] 56) := by rw [← hW0]; exact has_alloc (has_new' _ _ _ (by simp)) _
  have k3 : W0.heap[w.heap.size + 3]? = some (.cells #[.slice A0 n0 c0] 22) := by rw [← hW0]; exact has_new' _ _ _ (by simp)
  have hb0 : Below w.heap.size w W0 := by rw [← hW0]; exact kp_alloc (kp_alloc (kp_alloc (kp_alloc (Below.refl _ _) _) _) _) _
  have hs0 : W0.heap.size = w.heap.size + 4 := by rw [← hW0]; simp
  have HS0 := Lib.hid hs0
  have I0 : LI w n0 [] W0 := ⟨⟨[], none, 0, 0, rfl, k2, OwnR.nil _ _ _ _⟩, k0, k1, hb0⟩
  refine range_run (gf := 53) (lb := #[.pointer (some ⟨w.heap.size + 3, 0, none⟩)]) rfl (enters_of Try.func53 (by kernel_rfl) rfl) (by omega) pvEnc (fun x => by cases x <;> rfl) (· = w.heap.size + 3) (fun b hb => by rw [hb, HS0.out]; omega)
    (fun pre W => LI w n0 pre W ∧ (pre = [] → W.heap[w.heap.size + 3]? = some (.cells #[.slice A0 n0 c0] 22))) (fun pre W => LX w pre W)
    (fun xs => (∃ ps : List PV, xs = ps.map some ∧ (∀ p ∈ ps, p.Ok w n0) ∧ allQ bs = some (ps.map fun p => (p.raw, p.body))) ∨ (∃ ps : List PV, xs = ps.map some ++ [none])) (fun pre => (∃ ps : List PV, pre = ps.map some ++ [none]) → allQ bs = none) (n0 + 1)
    ?hI ?hIx ?h0 ?round ?iter ?done ?stop
  case hI =>
    rintro pre W b o h1 h2 ⟨hi, he⟩
    rw [HS0.out] at h1 h2
    exact ⟨hi.grown (putObj_grown W b o) (by omega) (by omega), fun e => (World.putObj_heap_other (by omega)).trans (he e)⟩
  case hIx =>
    rintro pre W b o h1 h2 hi
    rw [HS0.out] at h1 h2
    exact hi.grown (putObj_grown W b o) (by omega)
  case h0 => exact fun o1 o2 => ⟨(I0.alloc _).alloc _, fun _ => has_alloc (has_alloc k3 _) _⟩
  case iter =>
    rw [HS0.out]
    exact pieces1_in n0 c0 (w.heap.size + 4) (w.heap.size + 3) A0 bs w hR0 hnc hn hc (by omega) (by omega) (LI w n0) (fun _ _ h => h.b) (fun _ W u h => h.grown (grown_one W _ 0 u) (by omega) (by omega)) (fun _ _ k h => h.drewN k) (fun _ _ h => h.drew)
  case done =>
    rw [HS0.out]
    rintro xs W (⟨ps, rfl, hok, hall⟩ | ⟨ps, rfl⟩) ⟨hi, _⟩ hD
    · obtain ⟨⟨ps', A, m, c, e, hout, hown⟩, hz0, hz1, hbl⟩ := hi
      obtain rfl := map_some_inj e
      have hc2 := cells_1 hout
      have hc0 := cells_1 hz0
      have hc1 := cells_1 hz1
      have hf0 := free_1 hz0
      have hf1 := free_1 hz1
      have HA := Lib.hid hall
      have HO := Lib.hid hok
      have hD2 : ((W.setCell ⟨w.heap.size, 0, none⟩ (.slice A m c)).setCell ⟨w.heap.size + 1, 0, none⟩ (.int .i64 0)).heap[w.heap.size + 4]? = some (.deferred (some [])) := (heap_set_far _ _ _ _ _ (by omega)).trans ((heap_set_far _ _ _ _ _ (by omega)).trans hD)
      have hr0 : ((W.setCell ⟨w.heap.size, 0, none⟩ (.slice A m c)).setCell ⟨w.heap.size + 1, 0, none⟩ (.int .i64 0)).heap[w.heap.size]? = some (.cells #[.slice A m c] 56) := (heap_set_far _ _ _ _ _ (by omega)).trans (set_1 hz0)
      have hr1 : ((W.setCell ⟨w.heap.size, 0, none⟩ (.slice A m c)).setCell ⟨w.heap.size + 1, 0, none⟩ (.int .i64 0)).heap[w.heap.size + 1]? = some (.cells #[.int .i64 0] 27) := set_1 ((heap_set_far _ _ _ _ _ (by omega)).trans hz1)
      have ho2 : OwnR ((W.setCell ⟨w.heap.size, 0, none⟩ (.slice A m c)).setCell ⟨w.heap.size + 1, 0, none⟩ (.int .i64 0)) (w.heap.size + 6) 60 2 A m c (ps.flatMap PV.cells) := (hown.kept (grown_one _ _ _ _) (.inr (fun e => by have := (hown.blk_lt e).1; omega))).kept (grown_one _ _ _ _) (.inr (fun e => by have := (hown.blk_lt e).1; omega))
      have hb2 : Below w.heap.size w ((W.setCell ⟨w.heap.size, 0, none⟩ (.slice A m c)).setCell ⟨w.heap.size + 1, 0, none⟩ (.int .i64 0)) := kp_set (kp_set hbl (Nat.le_refl _)) (by omega)
      have HR := Lib.hid (And.intro hD2 (And.intro hr0 (And.intro hr1 (And.intro ho2 hb2))))
      clear hD2 hr0 hr1 ho2 hb2 hall hok hown hD
      gi_wp2
      obtain ⟨hD2, hr0, hr1, ho2, hb2⟩ := HR.out
      refine ⟨by simp, .inl ⟨_, _, rfl, run_takeDeferred hD2, ?_⟩⟩
      have hg := putObj_grown ((W.setCell ⟨w.heap.size, 0, none⟩ (.slice A m c)).setCell ⟨w.heap.size + 1, 0, none⟩ (.int .i64 0)) (w.heap.size + 4) (.deferred none)
      refine ⟨_, results_cc Try.results32 _ (LV.one (cells_1 ((World.putObj_heap_other (by omega)).trans hr0)) (by intro w; kernel_rfl)) (LV.one (cells_1 ((World.putObj_heap_other (by omega)).trans hr1)) (by intro w; kernel_rfl)), ?_⟩
      unfold ListPost
      rw [HA.out]
      exact ⟨⟨A, m, c, ps, rfl, rfl, HO.out, (ho2.kept hg (.inr (fun e => by have := (ho2.blk_lt e).1; omega))).lower (by omega)⟩, hb2.grown hg hb2.size (fun g hg => by injection hg with hg; omega)⟩
    · obtain ⟨⟨ps', A, m, c, e, hout, hown⟩, hz0, hz1, hbl⟩ := hi
      exact (map_some_none e).elim
  case stop =>
    rw [HS0.out]
    rintro pre W hSp ⟨hex, hz0, hz1, hbl⟩ hD
    have HA := Lib.hid (hSp hex)
    gi_wp2
    refine ⟨by simp, .inl ⟨_, _, rfl, run_takeDeferred hD, ?_⟩⟩
    have hg := putObj_grown W (w.heap.size + 4) (.deferred none)
    refine ⟨_, results_cc Try.results32 _ (LV.one (cells_1 ((World.putObj_heap_other (by omega)).trans hz0)) (by intro w; kernel_rfl)) (LV.one (cells_1 ((World.putObj_heap_other (by omega)).trans hz1)) (by intro w; kernel_rfl)), ?_⟩
    unfold ListPost
    rw [HA.out]
    exact ⟨rfl, hbl.grown hg hbl.size (fun g hg => by injection hg with hg; omega)⟩
  case round =>
    rw [HS0.out]
    rintro pre x W r o hL hD ⟨hi, _⟩ hlen
    obtain ⟨⟨ps, A, m, c, rfl, hout, hown⟩, hz0, hz1, hbl⟩ := hi
    cases x with
    | none =>
      simp only [pvEnc]
      gi_wp2
      have hLlt := block_lt hL
      refine ⟨has_alloc hL _, has_alloc hD _, fun b hb => by subst hb; exact heap_alloc_old _ _ (by omega), fun r' => ?_⟩
      have b0 : ((W.alloc (.cells #[.slice none 0 0, .slice none 0 0] 60)).putObj (w.heap.size + 4 + 1) (.loop r')).heap[w.heap.size]? = some (.cells #[.slice none 0 0] 56) := (World.putObj_heap_other (by omega)).trans (has_alloc hz0 _)
      have b1 : ((W.alloc (.cells #[.slice none 0 0, .slice none 0 0] 60)).putObj (w.heap.size + 4 + 1) (.loop r')).heap[w.heap.size + 1]? = some (.cells #[.int .i64 0] 27) := (World.putObj_heap_other (by omega)).trans (has_alloc hz1 _)
      have bL : ((W.alloc (.cells #[.slice none 0 0, .slice none 0 0] 60)).putObj (w.heap.size + 4 + 1) (.loop r')).heap[w.heap.size + 4 + 1]? = some (.loop r') := World.putObj_heap_same (by simp; omega)
      have bB : Below w.heap.size w ((W.alloc (.cells #[.slice none 0 0, .slice none 0 0] 60)).putObj (w.heap.size + 4 + 1) (.loop r')) := (kp_alloc hbl _).grown (putObj_grown _ _ _) (kp_alloc hbl _).size (fun g hg => by injection hg with hg; omega)
      generalize ((W.alloc (.cells #[.slice none 0 0, .slice none 0 0] 60)).putObj (w.heap.size + 4 + 1) (.loop r')) = Wb at *
      have hc0 := cells_1 b0
      have hc1 := cells_1 b1
      have hf0 := free_1 b0
      have hf1 := free_1 b1
      have hr0 : ((Wb.setCell ⟨w.heap.size, 0, none⟩ (.slice none 0 0)).setCell ⟨w.heap.size + 1, 0, none⟩ (.int .i64 9)).heap[w.heap.size]? = some (.cells #[.slice none 0 0] 56) := (heap_set_far _ _ _ _ _ (by omega)).trans (set_1 b0)
      have hr1 : ((Wb.setCell ⟨w.heap.size, 0, none⟩ (.slice none 0 0)).setCell ⟨w.heap.size + 1, 0, none⟩ (.int .i64 9)).heap[w.heap.size + 1]? = some (.cells #[.int .i64 9] 27) := set_1 ((heap_set_far _ _ _ _ _ (by omega)).trans b1)
      have hb2 : Below w.heap.size w ((Wb.setCell ⟨w.heap.size, 0, none⟩ (.slice none 0 0)).setCell ⟨w.heap.size + 1, 0, none⟩ (.int .i64 9)) := kp_set (kp_set bB (Nat.le_refl _)) (by omega)
      have HR := Lib.hid (And.intro hr0 (And.intro hr1 (And.intro bL hb2)))
      clear hr0 hr1 hb2
      gi_wp2
      obtain ⟨hr0, hr1, bL, hb2⟩ := HR.out
      exact ⟨(heap_set_far _ _ _ _ _ (by omega)).trans ((heap_set_far _ _ _ _ _ (by omega)).trans bL), (heap_set_far _ _ _ _ _ (by omega)).trans (heap_set_far _ _ _ _ _ (by omega)), ⟨ps, rfl⟩, hr0, hr1, hb2⟩
    | some p =>
      simp only [pvEnc, PV.val]
      gi_wp2
      have hLlt := block_lt hL
      refine ⟨has_alloc hL _, has_alloc hD _, fun b hb => by subst hb; exact heap_alloc_old _ _ (by omega), fun r' => ?_⟩
      have hpl : ps.length < n0 + 1 := by simpa using hlen
      have hml : m = ps.length := by
        have h9 := hown.len
        have : ∀ l : List PV, (l.flatMap PV.cells).length = l.length * 2 := fun l => by
          induction l with
          | nil => rfl
          | cons x l ih => simp only [List.flatMap_cons, List.length_append, ih, List.length_cons]; simp [PV.cells]; omega
        rw [this] at h9
        omega
      have b2 : ((W.alloc (.cells #[.slice p.ra p.rn p.rc, .slice p.ba p.bn p.bc] 60)).putObj (w.heap.size + 4 + 1) (.loop r')).heap[w.heap.size + 2]? = some (.cells #[.slice A m c] 56) := (World.putObj_heap_other (by omega)).trans (has_alloc hout _)
      have b5 : ((W.alloc (.cells #[.slice p.ra p.rn p.rc, .slice p.ba p.bn p.bc] 60)).putObj (w.heap.size + 4 + 1) (.loop r')).heap[W.heap.size]? = some (.cells #[.slice p.ra p.rn p.rc, .slice p.ba p.bn p.bc] 60) := (World.putObj_heap_other (by omega)).trans (has_new _ _)
      have bL : ((W.alloc (.cells #[.slice p.ra p.rn p.rc, .slice p.ba p.bn p.bc] 60)).putObj (w.heap.size + 4 + 1) (.loop r')).heap[w.heap.size + 4 + 1]? = some (.loop r') := World.putObj_heap_same (by simp; omega)
      have b0 : ((W.alloc (.cells #[.slice p.ra p.rn p.rc, .slice p.ba p.bn p.bc] 60)).putObj (w.heap.size + 4 + 1) (.loop r')).heap[w.heap.size]? = some (.cells #[.slice none 0 0] 56) := (World.putObj_heap_other (by omega)).trans (has_alloc hz0 _)
      have b1 : ((W.alloc (.cells #[.slice p.ra p.rn p.rc, .slice p.ba p.bn p.bc] 60)).putObj (w.heap.size + 4 + 1) (.loop r')).heap[w.heap.size + 1]? = some (.cells #[.int .i64 0] 27) := (World.putObj_heap_other (by omega)).trans (has_alloc hz1 _)
      have bB : Below w.heap.size w ((W.alloc (.cells #[.slice p.ra p.rn p.rc, .slice p.ba p.bn p.bc] 60)).putObj (w.heap.size + 4 + 1) (.loop r')) := (kp_alloc hbl _).grown (putObj_grown _ _ _) (kp_alloc hbl _).size (fun g hg => by injection hg with hg; omega)
      have bO : OwnR ((W.alloc (.cells #[.slice p.ra p.rn p.rc, .slice p.ba p.bn p.bc] 60)).putObj (w.heap.size + 4 + 1) (.loop r')) (w.heap.size + 6) 60 2 A m c (ps.flatMap PV.cells) := (hown.alloc _).kept (putObj_grown _ _ _) (.inr (fun e => by have := (hown.blk_lt e).1; omega))
      have bS : W.heap.size < ((W.alloc (.cells #[.slice p.ra p.rn p.rc, .slice p.ba p.bn p.bc] 60)).putObj (w.heap.size + 4 + 1) (.loop r')).heap.size := block_lt b5
      generalize ((W.alloc (.cells #[.slice p.ra p.rn p.rc, .slice p.ba p.bn p.bc] 60)).putObj (w.heap.size + 4 + 1) (.loop r')) = Wb at *
      have hc2 := cells_1 b2
      have hf2 := free_1 b2
      obtain ⟨hp0, hp1⟩ := cells_2 b5
      have HML := Lib.hid hml
      have hm2 : m ≤ 1000000000 := by omega
      clear hml hpl
      gi_wp2_with (gi_at_builtin; refine wpListIn_appL pv_row _ _ rfl rfl (w.heap.size + 6) A m c _ rfl (bO.alloc _) _ 1 1 #[.slice p.ra p.rn p.rc, .slice p.ba p.bn p.bc] (0, 0) rfl (has_new _ _) rfl (by intro u hu; simp at hu; rcases hu with rfl | rfl <;> rfl) (by unfold maxLen; omega) (by omega) (by simp; omega) ?_; intro A4 c4 w4 hown4 hg4; have hne4 : ∀ j, j < w.heap.size + 6 → some j ≠ blk A := (fun j hj e => by have := (bO.blk_lt e.symm).1; omega); have d2 := (hg4.block (w.heap.size + 2) (by simp; omega) (hne4 _ (by omega))).trans (has_alloc b2 _); have hc4 := cells_1 d2; have hf4 := free_1 d2)
      have hk : ∀ j, j < w.heap.size + 6 → j ≠ w.heap.size + 2 → (w4.setCell ⟨w.heap.size + 2, 0, none⟩ (.slice A4 (m + 1) c4)).heap[j]? = Wb.heap[j]? := fun j hj hne =>
        (heap_set_far _ _ _ _ _ hne).trans ((hg4.block j (by simp; omega) (hne4 _ hj)).trans (heap_alloc_old _ _ (by omega)))
      have hsz4 := hg4.size
      simp at hsz4
      refine ⟨(hk _ (by omega) (by omega)).trans bL, hk _ (by omega) (by omega), fun b hb => by subst hb; exact hk _ (by omega) (by omega), ⟨⟨ps ++ [p], A4, m + 1, c4, by simp, set_1 d2, ?_⟩, (hk _ (by omega) (by omega)).trans b0, (hk _ (by omega) (by omega)).trans b1, ?_⟩, fun e => by simp at e⟩
      · have := hown4.kept (grown_one w4 (w.heap.size + 2) 0 (.slice A4 (m + 1) c4)) (.inr (fun e => by have := (hown4.blk_lt e).1; omega))
        simpa [PV.cells] using this
      · exact kp_set ((kp_alloc bB _).grown hg4 (kp_alloc bB _).size (fun g hg => by have := (bO.blk_lt hg).1; omega)) (by omega)
end Go.Proofs.Ytamkbedbkjndgaa
