/-
  measure: the ranges, collected.
-/
import Derived.Test.YtcedojmhgmgcgaaGreatDoorMeD
import Derived.Test.YtcedojmhgmgcgaaGreatDoorMp5
namespace Go.Proofs.YtcedojmhgmgcgaaGreatDoor
open Go.RowKit Go
set_option linter.unusedVariables false
set_option linter.unusedSimpArgs false
set_option maxRecDepth 100000
attribute [local go_sem] Oper.semAt_some
theorem rng_row : RowT 34 39 2 16 (.agg #[.int .i64 0, .int .i64 0]) := ⟨Tryz.underlying34, by kernel_rfl, rfl, by decide⟩
theorem ranges2_is (gx gs ge D : Nat) (x : RngIn) (w0 : World) (h : RngIs w0 gx gs ge x) (I : List (Nat × Nat) → World → Prop) (hIb : ∀ pre W, I pre W → Below w0.heap.size w0 W) (hIa : ∀ pre W o, I pre W → I pre (W.alloc o)) (hD : w0.heap.size ≤ D) :
    IterOf Tryz.prog 4 D 40 #[.pointer (some ⟨gx, 0, none⟩), .pointer (some ⟨gs, 0, none⟩), .pointer (some ⟨ge, 0, none⟩)] rngEnc (fun _ => False) I (fun xs => xs = x.all) (fun _ => True) (x.sn + 6) :=
  iter_of_q (ranges2_in gx gs ge D x I (fun pre W hi => h.below (hIb pre W hi)) hIa)
/-- The state of the loop that collects. -/
structure LSr (w : World) (pre : List (Nat × Nat)) (W : World) : Prop where
  ex : ∃ (A : Option Addr) (m c : Nat), W.heap[w.heap.size]? = some (.cells #[.slice A m c] 34) ∧ m = pre.length ∧ OwnR W (w.heap.size + 3) 39 2 A m c (pre.flatMap rngCells)
  b : Below w.heap.size w W
theorem LSr.grown {w : World} {pre : List (Nat × Nat)} {W W' : World} {b : Nat} (h : LSr w pre W) (hg : W.grownBy W' (some b)) (h3 : w.heap.size + 1 ≤ b) (h6 : b < w.heap.size + 3) : LSr w pre W' := by
  obtain ⟨⟨A, m, c, h2, hm, ho⟩, hbl⟩ := h
  exact ⟨⟨A, m, c, (hg.block _ (block_lt h2) (fun e => by injection e with e; omega)).trans h2, hm, ho.kept hg (.inr (fun e => by have := (ho.blk_lt e).1; omega))⟩, hbl.grown hg hbl.size (fun g hg => by injection hg with hg; omega)⟩
theorem LSr.drewN {w : World} {pre : List (Nat × Nat)} {W : World} (h : LSr w pre W) (k : Nat) : LSr w pre (W.drewN k) := ⟨h.ex, kp_drewN h.b k⟩
theorem LSr.drew {w : World} {pre : List (Nat × Nat)} {W : World} (h : LSr w pre W) : LSr w pre W.drew := ⟨h.ex, h.b.drew⟩
theorem LSr.alloc {w : World} {pre : List (Nat × Nat)} {W : World} (h : LSr w pre W) (o : Obj) : LSr w pre (W.alloc o) := by
  obtain ⟨⟨A, m, c, h2, hm, ho⟩, hbl⟩ := h
  exact ⟨⟨A, m, c, has_alloc h2 _, hm, ho.alloc _⟩, kp_alloc hbl _⟩
/-- What is collected. -/
def ColR (w : World) (L : List (Nat × Nat)) (e : Ending) (w' : World) : Prop :=
  ∃ (A : Option Addr) (c : Nat), e = .returned (.slice A L.length c) ∧ OwnR w' w.heap.size 39 2 A L.length c (L.flatMap rngCells) ∧ Below w.heap.size w w'
set_option maxHeartbeats 2000000 in
theorem appendSeqR_any (gx gs ge : Nat) (I0 : RngIn) (w : World) (h : RngIs w gx gs ge I0) :
    Calls Tryz.prog 50 #[.slice none 0 0, .func (.func 40) #[] #[.pointer (some ⟨gx, 0, none⟩), .pointer (some ⟨gs, 0, none⟩), .pointer (some ⟨ge, 0, none⟩)]] w (ColR w I0.all) := by
  refine (callsIn_wide (n := 4)).1 ?_
  refine callsIn_of_wp_marks Tryz.func50 rfl trivial ?_ rfl
  simp only [Tryz.ntmps50, List.size_toArray, List.length_cons, List.length_nil, Nat.reduceAdd, Nat.reduceSub, Array.replicate_succ, Array.replicate_zero, List.push_toArray, List.append_toArray, List.nil_append, List.cons_append]
  gi_wp2
  refine wpIn_nm fun W0 hW0 => ?_
  have k0 : W0.heap[w.heap.size]? = some (.cells #[.slice none 0 0] 34) := by rw [← hW0]; exact has_new w _
  have hb0 : Below w.heap.size w W0 := by rw [← hW0]; exact kp_alloc (Below.refl _ _) _
  have hs0 : W0.heap.size = w.heap.size + 1 := by rw [← hW0]; simp
  have HS0 := Lib.hid hs0
  have HI0 : LSr w [] W0 := ⟨⟨none, 0, 0, k0, rfl, OwnR.nil _ _ _ _⟩, hb0⟩
  clear hW0
  refine range_run (gf := 40) (lb := #[.pointer (some ⟨gx, 0, none⟩), .pointer (some ⟨gs, 0, none⟩), .pointer (some ⟨ge, 0, none⟩)]) rfl (enters_of Tryz.func40 (by kernel_rfl) rfl) (by omega) rngEnc (fun x => rfl) (fun _ => False) (fun b hb => hb.elim)
    (fun pre W => LSr w pre W) (fun _ _ => False) (fun xs => xs = I0.all) (fun _ => True) (I0.sn + 6)
    ?hI ?hIx ?h0 ?round ?iter ?done ?stop
  case hI =>
    rintro pre W b o h1 h2 hi
    rw [HS0.out] at h1 h2
    exact hi.grown (putObj_grown W b o) (by omega) (by omega)
  case hIx => exact fun _ _ _ _ _ _ h => h.elim
  case h0 => exact fun o1 o2 => (HI0.alloc _).alloc _
  case iter =>
    rw [HS0.out]
    exact ranges2_is gx gs ge (w.heap.size + 1) I0 w h (LSr w) (fun _ _ h => h.b) (fun _ _ o h => h.alloc o) (by omega)
  case done =>
    rw [HS0.out]
    rintro xs W rfl ⟨⟨A, m, c, hout, hm, hown⟩, hbl2⟩ hD
    subst hm
    have hc2 := cells_1 hout
    have HO := Lib.hid hown
    have HD := Lib.hid hD
    have HB := Lib.hid hbl2
    clear hown hD hbl2
    gi_wp2
    refine ⟨by simp, .inl ⟨_, _, rfl, run_takeDeferred HD.out, ?_⟩⟩
    have hg := putObj_grown W (w.heap.size + 1) (.deferred none)
    refine ⟨_, results_tmp rfl _ _ _, ?_⟩
    have hp : ColR w I0.all (.returned (.slice A I0.all.length c)) (W.putObj (w.heap.size + 1) (.deferred none)) := ⟨A, c, rfl, (HO.out.kept hg (.inr (fun e => by have := (HO.out.blk_lt e).1; omega))).lower (by omega), HB.out.grown hg HB.out.size (fun g hg => by injection hg with hg; omega)⟩
    exact hp
  case stop => exact fun _ _ _ h => h.elim
  case round =>
    rw [HS0.out]
    rintro pre x W r o hL hD hi hlen
    obtain ⟨⟨A, m, c, hout, hm, hown⟩, hbl2⟩ := hi
    simp only [rngEnc]
    gi_wp2
    have hLlt := block_lt hL
    refine ⟨has_alloc hL _, has_alloc hD _, fun b hb => hb.elim, fun r' => ?_⟩
    have b0 : ((W.alloc (.cells #[.int .i64 (x.1 : Nat), .int .i64 (x.2 : Nat)] 39)).putObj (w.heap.size + 1 + 1) (.loop r')).heap[w.heap.size]? = some (.cells #[.slice A m c] 34) := (World.putObj_heap_other (by omega)).trans (has_alloc hout _)
    have b5 : ((W.alloc (.cells #[.int .i64 (x.1 : Nat), .int .i64 (x.2 : Nat)] 39)).putObj (w.heap.size + 1 + 1) (.loop r')).heap[W.heap.size]? = some (.cells #[.int .i64 (x.1 : Nat), .int .i64 (x.2 : Nat)] 39) := (World.putObj_heap_other (by omega)).trans (has_new _ _)
    have bL : ((W.alloc (.cells #[.int .i64 (x.1 : Nat), .int .i64 (x.2 : Nat)] 39)).putObj (w.heap.size + 1 + 1) (.loop r')).heap[w.heap.size + 1 + 1]? = some (.loop r') := World.putObj_heap_same (by simp; omega)
    have bB : Below w.heap.size w ((W.alloc (.cells #[.int .i64 (x.1 : Nat), .int .i64 (x.2 : Nat)] 39)).putObj (w.heap.size + 1 + 1) (.loop r')) := (kp_alloc hbl2 _).grown (putObj_grown _ _ _) (kp_alloc hbl2 _).size (fun g hg => by injection hg with hg; omega)
    have bO : OwnR ((W.alloc (.cells #[.int .i64 (x.1 : Nat), .int .i64 (x.2 : Nat)] 39)).putObj (w.heap.size + 1 + 1) (.loop r')) (w.heap.size + 3) 39 2 A m c (pre.flatMap rngCells) := (hown.alloc _).kept (putObj_grown _ _ _) (.inr (fun e => by have := (hown.blk_lt e).1; omega))
    have bS := block_lt b5
    generalize ((W.alloc (.cells #[.int .i64 (x.1 : Nat), .int .i64 (x.2 : Nat)] 39)).putObj (w.heap.size + 1 + 1) (.loop r')) = Wb at *
    have hc0 := cells_1 b0
    have hf0 := free_1 b0
    obtain ⟨hp0, hp1⟩ := cells_2 b5
    have HML := Lib.hid hm
    have hm2 : m ≤ 1000000000 := by have := h.n; omega
    obtain ⟨x1, x2⟩ := x
    dsimp only at *
    clear hm
    gi_wp2_with (gi_at_builtin; refine wpListIn_appL rng_row _ _ rfl rfl (w.heap.size + 3) A m c _ rfl (bO.alloc _) _ 1 1 #[.int .i64 (x1 : Nat), .int .i64 (x2 : Nat)] (0, 0) rfl (has_new _ _) rfl (by intro u hu; simp at hu; rcases hu with rfl | rfl <;> rfl) (by unfold maxLen; omega) (by omega) (by simp; omega) ?_; intro A4 c4 w4 hown4 hg4; have hne4 : ∀ j, j < w.heap.size + 3 → some j ≠ blk A := (fun j hj e => by have := (bO.blk_lt e.symm).1; omega); have d0 : w4.heap[w.heap.size]? = some (.cells #[.slice A m c] 34) := ((hg4.block _ (by simp; omega) (hne4 _ (by omega))).trans (has_alloc b0 _)); have d1 := cells_1 d0; have d2 := free_1 d0)
    have hk : ∀ j, j < w.heap.size + 3 → j ≠ w.heap.size → (w4.setCell ⟨w.heap.size, 0, none⟩ (.slice A4 (m + 1) c4)).heap[j]? = Wb.heap[j]? := fun j hj hne =>
      (heap_set_far _ _ _ _ _ hne).trans ((hg4.block j (by simp; omega) (hne4 _ hj)).trans (heap_alloc_old _ _ (by omega)))
    have hsz4 := hg4.size
    simp at hsz4
    refine ⟨(hk _ (by omega) (by omega)).trans bL, hk _ (by omega) (by omega), fun b hb => hb.elim, ⟨⟨A4, m + 1, c4, set_1 d0, by simp [HML.out], ?_⟩, ?_⟩⟩
    · have := hown4.kept (grown_one w4 (w.heap.size) 0 (.slice A4 (m + 1) c4)) (.inr (fun e => by have := (hown4.blk_lt e).1; omega))
      simpa [rngCells] using this
    · exact kp_set ((kp_alloc bB _).grown hg4 (kp_alloc bB _).size (fun g hg => by have := (bO.blk_lt hg).1; omega)) (by omega)
theorem collectR_any (gx gs ge : Nat) (I0 : RngIn) (w : World) (h : RngIs w gx gs ge I0) :
    Calls Tryz.prog 23 #[.func (.func 40) #[] #[.pointer (some ⟨gx, 0, none⟩), .pointer (some ⟨gs, 0, none⟩), .pointer (some ⟨ge, 0, none⟩)]] w (ColR w I0.all) := by
  have C := Lib.hid (appendSeqR_any gx gs ge I0 w h)
  clear h
  go_enter Tryz.func23, Tryz.ntmps23
  go_wp2_with fail
  (with_reducible refine C.out.mono ?_)
  rintro e w' ⟨A, c, rfl, ho, hb⟩
  have HO := Lib.hid ho
  have HB := Lib.hid hb
  clear ho hb C
  go_wp2_with fail
  go_ret
  have hp : ColR w I0.all (.returned (.slice A I0.all.length c)) w' := ⟨A, c, rfl, HO.out, HB.out⟩
  exact hp
end Go.Proofs.YtcedojmhgmgcgaaGreatDoor
