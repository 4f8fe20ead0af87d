/-
  pe: AppendSeq, Collect and SortedFunc at sections.
-/
import Derived.Test.YtjfpiidofbjdhaaDoorPeD
namespace Go.Proofs.YtjfpiidofbjdhaaDoor
open Go.RowKit Go
set_option linter.unusedVariables false
set_option maxRecDepth 100000
attribute [local go_sem] Oper.semAt_some
/-- The state of the loop that collects. -/
structure LS (w : World) (pre : List (Nat × Nat)) (W : World) : Prop where
  ex : ∃ (A : Option Addr) (m c : Nat), W.heap[w.heap.size]? = some (.cells #[.slice A m c] 25) ∧ m = pre.length ∧ OwnR W (w.heap.size + 3) 43 2 A m c (pre.flatMap secCells)
  b : Below w.heap.size w W
theorem LS.grown {w : World} {pre : List (Nat × Nat)} {W W' : World} {b : Nat} (h : LS w pre W) (hg : W.grownBy W' (some b)) (h3 : w.heap.size + 1 ≤ b) (h6 : b < w.heap.size + 3) : LS w pre W' := by
  obtain ⟨⟨A, m, c, h2, hm, ho⟩, hbl⟩ := h
  exact ⟨⟨A, m, c, (hg.block _ (block_lt h2) (fun e => by injection e with e; omega)).trans h2, hm, ho.kept hg (.inr (fun e => by have := (ho.blk_lt e).1; omega))⟩, hbl.grown hg hbl.size (fun g hg => by injection hg with hg; omega)⟩
theorem LS.drewN {w : World} {pre : List (Nat × Nat)} {W : World} (h : LS w pre W) (k : Nat) : LS w pre (W.drewN k) := ⟨h.ex, kp_drewN h.b k⟩
theorem LS.drew {w : World} {pre : List (Nat × Nat)} {W : World} (h : LS w pre W) : LS w pre W.drew := ⟨h.ex, h.b.drew⟩
theorem LS.alloc {w : World} {pre : List (Nat × Nat)} {W : World} (h : LS w pre W) (o : Obj) : LS w pre (W.alloc o) := by
  obtain ⟨⟨A, m, c, h2, hm, ho⟩, hbl⟩ := h
  exact ⟨⟨A, m, c, has_alloc h2 _, hm, ho.alloc _⟩, kp_alloc hbl _⟩
/-- What is collected. -/
def ColPost (w : World) (L : List (Nat × Nat)) (e : Ending) (w' : World) : Prop :=
  ∃ (A : Option Addr) (c : Nat), e = .returned (.slice A L.length c) ∧ OwnR w' w.heap.size 43 2 A L.length c (L.flatMap secCells) ∧ Below w.heap.size w w'
set_option maxHeartbeats 2000000 in
theorem appendSeq_any (bx : Nat) (A0 : Option Addr) (n0 c0 : Nat) (L : List (Nat × Nat)) (w : World) (hR : ReadR w A0 (L.flatMap secCells)) (hl : L.length = n0) (hn : n0 ≤ 100000) (hbx : w.heap[bx]? = some (.cells #[.slice A0 n0 c0] 25)) :
    Calls Tryd.prog 62 #[.slice none 0 0, .func (.func 56) #[] #[.pointer (some ⟨bx, 0, none⟩)]] w (ColPost w L) := by
  have hbl := block_lt hbx
  refine (callsIn_wide (n := 4)).1 ?_
  refine callsIn_of_wp_marks Tryd.func62 rfl trivial ?_ rfl
  simp only [Tryd.ntmps62, List.size_toArray, List.length_cons, List.length_nil, Nat.reduceAdd, Nat.reduceSub, Array.replicate_succ, Array.replicate_zero, List.push_toArray, List.append_toArray, List.nil_append, List.cons_append]
  gi_wp2
  refine wpIn_nm fun W0 hW0 => ?_
  have k0 : W0.heap[w.heap.size]? = some (.cells #[.slice none 0 0] 25) := by rw [← hW0]; exact has_new w _
  have hb0 : Below w.heap.size w W0 := by rw [← hW0]; exact kp_alloc (Below.refl _ _) _
  have hs0 : W0.heap.size = w.heap.size + 1 := by rw [← hW0]; simp
  have HS0 := Lib.hid hs0
  have I0 : LS w [] W0 := ⟨⟨none, 0, 0, k0, rfl, OwnR.nil _ _ _ _⟩, hb0⟩
  clear hW0
  refine range_run (gf := 56) (lb := #[.pointer (some ⟨bx, 0, none⟩)]) rfl (enters_of Tryd.func56 (by kernel_rfl) rfl) (by omega) secEnc (fun x => rfl) (fun _ => False) (fun b hb => hb.elim)
    (fun pre W => LS w pre W) (fun _ _ => False) (fun xs => xs = L) (fun _ => True) (n0 + 1)
    ?hI ?hIx ?h0 ?round ?iter ?done ?stop
  case hI =>
    rintro pre W b o h1 h2 hi
    rw [HS0.out] at h1 h2
    exact hi.grown (putObj_grown W b o) (by omega) (by omega)
  case hIx => exact fun _ _ _ _ _ _ h => h.elim
  case h0 => exact fun o1 o2 => (I0.alloc _).alloc _
  case iter =>
    rw [HS0.out]
    exact values1_in n0 c0 (w.heap.size + 1) bx A0 L w hR hl hn hbx (LS w) (fun _ _ h => h.b) (fun _ _ o h => h.alloc o) (fun _ _ k h => h.drewN k) (fun _ _ h => h.drew) (by omega)
  case done =>
    rw [HS0.out]
    rintro xs W rfl ⟨⟨A, m, c, hout, hm, hown⟩, hbl2⟩ hD
    subst hm
    have hc2 := cells_1 hout
    have HO := Lib.hid hown
    have HD := Lib.hid hD
    have HB := Lib.hid hbl2
    clear hown hD hbl2
    gi_wp2
    refine ⟨by simp, .inl ⟨_, _, rfl, run_takeDeferred HD.out, ?_⟩⟩
    have hg := putObj_grown W (w.heap.size + 1) (.deferred none)
    refine ⟨_, results_tmp rfl _ _ _, ?_⟩
    have hp : ColPost w xs (.returned (.slice A xs.length c)) (W.putObj (w.heap.size + 1) (.deferred none)) := ⟨A, c, rfl, (HO.out.kept hg (.inr (fun e => by have := (HO.out.blk_lt e).1; omega))).lower (by omega), HB.out.grown hg HB.out.size (fun g hg => by injection hg with hg; omega)⟩
    rw [hl] at hp
    exact hp
  case stop => exact fun _ _ _ h => h.elim
  case round =>
    rw [HS0.out]
    rintro pre x W r o hL hD hi hlen
    obtain ⟨⟨A, m, c, hout, hm, hown⟩, hbl2⟩ := hi
    simp only [secEnc]
    gi_wp2
    have hLlt := block_lt hL
    refine ⟨has_alloc hL _, has_alloc hD _, fun b hb => hb.elim, fun r' => ?_⟩
    have b0 : ((W.alloc (.cells #[.int .u32 (x.1 : Nat), .int .u32 (x.2 : Nat)] 43)).putObj (w.heap.size + 1 + 1) (.loop r')).heap[w.heap.size]? = some (.cells #[.slice A m c] 25) := (World.putObj_heap_other (by omega)).trans (has_alloc hout _)
    have b5 : ((W.alloc (.cells #[.int .u32 (x.1 : Nat), .int .u32 (x.2 : Nat)] 43)).putObj (w.heap.size + 1 + 1) (.loop r')).heap[W.heap.size]? = some (.cells #[.int .u32 (x.1 : Nat), .int .u32 (x.2 : Nat)] 43) := (World.putObj_heap_other (by omega)).trans (has_new _ _)
    have bL : ((W.alloc (.cells #[.int .u32 (x.1 : Nat), .int .u32 (x.2 : Nat)] 43)).putObj (w.heap.size + 1 + 1) (.loop r')).heap[w.heap.size + 1 + 1]? = some (.loop r') := World.putObj_heap_same (by simp; omega)
    have bB : Below w.heap.size w ((W.alloc (.cells #[.int .u32 (x.1 : Nat), .int .u32 (x.2 : Nat)] 43)).putObj (w.heap.size + 1 + 1) (.loop r')) := (kp_alloc hbl2 _).grown (putObj_grown _ _ _) (kp_alloc hbl2 _).size (fun g hg => by injection hg with hg; omega)
    have bO : OwnR ((W.alloc (.cells #[.int .u32 (x.1 : Nat), .int .u32 (x.2 : Nat)] 43)).putObj (w.heap.size + 1 + 1) (.loop r')) (w.heap.size + 3) 43 2 A m c (pre.flatMap secCells) := (hown.alloc _).kept (putObj_grown _ _ _) (.inr (fun e => by have := (hown.blk_lt e).1; omega))
    have bS := block_lt b5
    generalize ((W.alloc (.cells #[.int .u32 (x.1 : Nat), .int .u32 (x.2 : Nat)] 43)).putObj (w.heap.size + 1 + 1) (.loop r')) = Wb at *
    have hc0 := cells_1 b0
    have hf0 := free_1 b0
    obtain ⟨hp0, hp1⟩ := cells_2 b5
    have HML := Lib.hid hm
    have hm2 : m ≤ 1000000000 := by omega
    obtain ⟨x1, x2⟩ := x
    dsimp only at *
    clear hm
    gi_wp2_with (gi_at_builtin; refine wpListIn_appL sec_row _ _ rfl rfl (w.heap.size + 3) A m c _ rfl (bO.alloc _) _ 1 1 #[.int .u32 (x1 : Nat), .int .u32 (x2 : Nat)] (0, 0) rfl (has_new _ _) rfl (by intro u hu; simp at hu; rcases hu with rfl | rfl <;> rfl) (by unfold maxLen; omega) (by omega) (by simp; omega) ?_; intro A4 c4 w4 hown4 hg4; have hne4 : ∀ j, j < w.heap.size + 3 → some j ≠ blk A := (fun j hj e => by have := (bO.blk_lt e.symm).1; omega); have d0 : w4.heap[w.heap.size]? = some (.cells #[.slice A m c] 25) := ((hg4.block _ (by simp; omega) (hne4 _ (by omega))).trans (has_alloc b0 _)); have d1 := cells_1 d0; have d2 := free_1 d0)
    have hk : ∀ j, j < w.heap.size + 3 → j ≠ w.heap.size → (w4.setCell ⟨w.heap.size, 0, none⟩ (.slice A4 (m + 1) c4)).heap[j]? = Wb.heap[j]? := fun j hj hne =>
      (heap_set_far _ _ _ _ _ hne).trans ((hg4.block j (by simp; omega) (hne4 _ hj)).trans (heap_alloc_old _ _ (by omega)))
    have hsz4 := hg4.size
    simp at hsz4
    refine ⟨(hk _ (by omega) (by omega)).trans bL, hk _ (by omega) (by omega), fun b hb => hb.elim, ⟨⟨A4, m + 1, c4, set_1 d0, by simp [HML.out], ?_⟩, ?_⟩⟩
    · have := hown4.kept (grown_one w4 (w.heap.size) 0 (.slice A4 (m + 1) c4)) (.inr (fun e => by have := (hown4.blk_lt e).1; omega))
      simpa [secCells] using this
    · exact kp_set ((kp_alloc bB _).grown hg4 (kp_alloc bB _).size (fun g hg => by have := (bO.blk_lt hg).1; omega)) (by omega)
theorem collect_any (bx : Nat) (A0 : Option Addr) (n0 c0 : Nat) (L : List (Nat × Nat)) (w : World) (hR : ReadR w A0 (L.flatMap secCells)) (hl : L.length = n0) (hn : n0 ≤ 100000) (hbx : w.heap[bx]? = some (.cells #[.slice A0 n0 c0] 25)) :
    Calls Tryd.prog 54 #[.func (.func 56) #[] #[.pointer (some ⟨bx, 0, none⟩)]] w (ColPost w L) := by
  have C := Lib.hid (appendSeq_any bx A0 n0 c0 L w hR hl hn hbx)
  clear hR hbx
  go_enter Tryd.func54, Tryd.ntmps54
  go_wp2_with fail
  (with_reducible refine C.out.mono ?_)
  rintro e w' ⟨A, c, rfl, ho, hb⟩
  have HO := Lib.hid ho
  have HB := Lib.hid hb
  clear ho hb C
  go_wp2_with fail
  go_ret
  have hp : ColPost w L (.returned (.slice A L.length c)) w' := ⟨A, c, rfl, HO.out, HB.out⟩
  rw [hl] at hp
  exact hp
/-- The sections, in the order in which they lie. -/
def SortPost (w : World) (L : List (Nat × Nat)) (e : Ending) (w' : World) : Prop :=
  ∃ (A : Option Addr) (c : Nat) (L' : List (Nat × Nat)), e = .returned (.slice A L.length c) ∧ L'.Perm L ∧ L'.Pairwise (fun a b => a.1 ≤ b.1) ∧ OwnR w' w.heap.size 43 2 A L.length c (L'.flatMap secCells) ∧ Below w.heap.size w w'
theorem sorted_any (bx : Nat) (A0 : Option Addr) (n0 c0 : Nat) (L : List (Nat × Nat)) (w : World) (hR : ReadR w A0 (L.flatMap secCells)) (hl : L.length = n0) (hn : n0 ≤ 100000) (hbx : w.heap[bx]? = some (.cells #[.slice A0 n0 c0] 25)) :
    Calls Tryd.prog 45 #[.func (.func 56) #[] #[.pointer (some ⟨bx, 0, none⟩)], .func (.func 47) #[] #[]] w (SortPost w L) := by
  have C := Lib.hid (collect_any bx A0 n0 c0 L w hR hl hn hbx)
  clear hR hbx
  go_enter Tryd.func45, Tryd.ntmps45
  go_wp2_with fail
  (with_reducible refine C.out.mono ?_)
  rintro e w' ⟨A, c, rfl, ho, hb⟩
  have D := Lib.hid (sortSec_any A L.length c w.heap.size L w' ho rfl (by omega))
  have HB := Lib.hid hb
  have hw1 := hb.size
  have HBL : Hid (∀ k, blk A = some k → w.heap.size ≤ k) := fun k hk => (ho.blk_lt hk).1
  rw [hl] at D
  clear ho hb C
  go_wp2_with fail
  (with_reducible refine D.out.mono ?_)
  rintro e w2 ⟨rfl, L', hp, hs, ho, hg⟩
  have HH : Hid (SortPost w L (.returned (.slice A L.length c)) w2) := ⟨A, c, L', rfl, hp, hs, by rw [hl]; exact ho, HB.out.grown hg HB.out.size (fun k hk => HBL.out k hk)⟩
  rw [hl] at HH
  clear hp hs ho hg D HB HBL
  go_wp2_with fail
  go_ret
  exact HH.out
end Go.Proofs.YtjfpiidofbjdhaaDoor
