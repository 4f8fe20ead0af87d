/-
  measure: the anchor.
-/
import Derived.Test.YtcedojmhgmgcgaaGreatDoorMeK
import Derived.Test.YtcedojmhgmgcgaaGreatDoorMp7
namespace Go.Proofs.YtcedojmhgmgcgaaGreatDoor
open Go.RowKit Go
set_option linter.unusedVariables false
set_option linter.unusedSimpArgs false
set_option maxRecDepth 100000
attribute [local go_sem] Oper.semAt_some
theorem wpList_load_rowH {P : Program} {ops : Array Oper} {rest : List Oper} {o : Oper} {a : Act} {w : World} {Q : Exit → Act → World → Prop} (hw : Region.wanted o (yielded ops a.tmps) = true) (ty : TypeId) (x : Operand) (ho : o.op = .load ty x)
    (g : Nat) (hx : a.eval x = .pointer (some ⟨g, 0, none⟩)) (t : TypeId) (cs : Array Value) (fr : Nat × Nat) (d : TypeDesc) (hg : w.heap[g]? = some (.cells cs t fr))
    (hu : P.underlying ty = some d) (hd : (match d with | .struct _ | .array _ _ => true | _ => false) = true) (hi : (P.info? ty).map (·.size) = some cs.size)
    (h : wpList P ops Q rest (a.put o.dst (.agg cs)) w) : wpList P ops Q (o :: rest) a w :=
  wpList_step fun K hK => by
    rw [if_pos hw]
    exact wp_load_row ty x ho g hx t cs fr d hg hu hd hi (hK _ _ h)
theorem wpList_buildH {P : Program} {ops : Array Oper} {rest : List Oper} {o : Oper} {a : Act} {w : World} {Q : Exit → Act → World → Prop} (hw : Region.wanted o (yielded ops a.tmps) = true) (t : TypeId) (parts : Array (Nat × Operand)) (ho : o.op = .build t parts)
    (cells : Array Value) (hf : P.built t (parts.map fun (i, x) => (i, a.eval x)).toList = some cells)
    (h : wpList P ops Q rest (a.put o.dst (.agg cells)) w) : wpList P ops Q (o :: rest) a w :=
  wpList_step fun K hK => by
    rw [if_pos hw]
    exact wp_build t parts ho (by rw [hf]; rfl) (by rw [hf]; exact hK _ _ h)
def shpW2 (p0 p1 p2 p3 : Nat) : Shp :=
  ⟨false, none, 0, 0, [], none, 0, 0, [], some ⟨p1, 0, none⟩, 1, 1, [(some ⟨p0, 0, none⟩, 2, 2, [1, 2])], none, 0, 0, [], none, 0, 0, [], some ⟨p3, 0, none⟩, 1, 1, [(some ⟨p2, 0, none⟩, 1, 1, [7])]⟩
theorem shp_R2 {W : World} {p0 p1 p2 p3 : Nat} (k0 : W.heap[p0]? = some (.cells #[.int .u8 1, .int .u8 2] 5)) (k1 : W.heap[p1]? = some (.cells #[.slice (some ⟨p0, 0, none⟩) 2 2] 22))
    (k2 : W.heap[p2]? = some (.cells #[.int .u8 7] 5)) (k3 : W.heap[p3]? = some (.cells #[.slice (some ⟨p2, 0, none⟩) 1 1] 22)) : (shpW2 p0 p1 p2 p3).R W := by
  refine ⟨RB.nil _ _, RB.nil _ _, ⟨rfl, readR_cells k1, ?_⟩, rfl, (fun h => absurd rfl h), RB.nil _ _, ⟨rfl, readR_cells k3, ?_⟩⟩
  · intro x hx
    simp only [shpW2, List.mem_singleton] at hx; subst hx
    exact rb_cells (bs := [1, 2]) k0 rfl
  · intro x hx
    simp only [shpW2, List.mem_singleton] at hx; subst hx
    exact rb_cells (bs := [7]) k2 rfl
set_option maxHeartbeats 8000000 in
theorem works17_any (w : World) (hS : Sizes w) : Calls Tryz.prog 4 #[] w fun e w' => e = .returned (.bool true) ∧ Below w.heap.size w w' := by
  obtain ⟨im, i1, i2, i3, i4, i5, i6, i7, i8⟩ := wI_parse
  have HP := Lib.hid (And.intro i1 (And.intro i2 (And.intro i3 (And.intro i4 (And.intro i5 (And.intro i6 (And.intro i7 i8)))))))
  clear i1 i2 i3 i4 i5 i6 i7 i8
  have hc8 : parseQ cI = .inr im := HP.out.2.2.2.2.2.2.2 cI (by unfold cI; rw [List.length_set]) (fun i hi => by unfold cI; rw [List.getElem?_set]; rw [if_neg (by omega)])
  have hdd : digQ cI im = digQ wI im := dig_same9 im cI (by unfold cI; rw [List.length_set]) (fun i hi => by unfold cI; rw [List.getElem?_set]; rw [if_neg (by omega)]) HP.out.1 HP.out.2.1 HP.out.2.2.1 HP.out.2.2.2.2.1 hc8
  have hdn := wI_dig im HP.out.1 HP.out.2.1 HP.out.2.2.1 HP.out.2.2.2.2.1
  have hrl := wI_ranges im HP.out.2.2.2.2.2.1
  have hdl : (digQ wI im).length = 32 := sumQ_len _ _
  have heq : ∀ W, (Op.equalIn 10000 25 (.agg ((digQ wI im).map v8).toArray) (.agg ((digQ wI im).map v8).toArray)).run Tryz.prog W = .ok true W := fun W => dig_same _ hdl W
  have hne : ∀ W, (Op.equalIn 10000 25 (.agg ((digQ wI im).map v8).toArray) (.agg zD)).run Tryz.prog W = .ok false W := fun W => by
    rw [← hdn]
    exact dig_eq _ _ hdl rfl W
  have DSZ' : (Tryz.prog.info? 25).map (·.size) = some (((digQ wI im).map v8).toArray).size := by rw [List.size_toArray, List.length_map, hdl]; kernel_rfl
  have DS1' : zD.size = (((digQ wI im).map v8).toArray).size := by show 32 = _; rw [List.size_toArray, List.length_map, hdl]
  have DSO' := dig_one (digQ wI im)
  obtain ⟨ds, hds⟩ : ∃ ds, ((digQ wI im).map v8).toArray = ds := ⟨_, rfl⟩
  rw [hds] at heq hne DSZ' DS1' DSO'
  have HDS := Lib.hid hds
  have DSZ := Lib.hid DSZ'
  have DS1 := Lib.hid DS1'
  have DSO := Lib.hid DSO'
  have HC := Lib.hid (And.intro hc8 hdd)
  have HRL := Lib.hid hrl
  have HS := Lib.hid hS
  have HEQ := Lib.hid (And.intro heq hne)
  clear hS hc8 hdd hdn hrl hdl heq hne DSZ' DS1' DSO' hds
  go_enter Tryz.func4, Tryz.ntmps4
  go_wp2_with (fail)
  refine (brought_any (shpW2 w.heap.size (w.heap.size + 1) (w.heap.size + 1 + 1) (w.heap.size + 1 + 1 + 1)) _ (shp_R2 ?_ ?_ ?_ ?_) (by simp only [shpW2]; omega) (by simp only [shpW2]; omega) (by simp [shpW2]) (by simp [shpW2]) (by simp only [shpW2]; omega)).mono ?_
  iterate 4 (first | exact has_new' _ _ _ (by simp) | (refine has_alloc ?_ _; first | exact has_new' _ _ _ (by simp) | (refine has_alloc ?_ _; first | exact has_new' _ _ _ (by simp) | (refine has_alloc ?_ _; exact has_new' _ _ _ (by simp)))))
  rintro e W2 ⟨y, rfl, hy, hb2, hpl, hst, hfi, hbe, hor, hbo, hsi, _⟩
  have hb2' := kp_call (kp_alloc (kp_alloc (kp_alloc (kp_alloc (Below.refl w.heap.size w) _) _) _) _) hb2
  have hbo' : y.bod.map (fun z => z.2.2.2) = [[1, 2]] := hbo
  have hsi' : y.sig.map (fun z => z.2.2.2) = [[48, 7]] := hsi
  have hst' : y.stub = [] := hst
  have hfi' : y.fill = [] := hfi
  have hbe' : y.beh = [] := hbe
  have hor' : y.ord = [] := hor
  have hpl' : y.plus = false := hpl
  have C := Lib.hid (writeD_any y W2 hy
    (by
      have a1 := hy.s.1; have a2 := hy.f.1; have a3 := hy.h.1; have a4 := hy.ol; have a5 := hy.b.l; have a6 := hy.g.l
      have a7 := congrArg List.length hbo'; have a8 := congrArg List.length hsi'
      rw [hst'] at a1; rw [hfi'] at a2; rw [hbe'] at a3; rw [hor'] at a4
      simp at a1 a2 a3 a4 a7 a8
      omega)
    (fun z hz => by
      have := List.mem_map_of_mem (f := fun z : Own1 => z.2.2.2) hz
      rw [hbo'] at this
      simp at this
      rw [this]; decide)
    (fun z hz => by
      have := List.mem_map_of_mem (f := fun z : Own1 => z.2.2.2) hz
      rw [hsi'] at this
      simp at this
      rw [this]; decide)
    (by rw [hor']; intro z hz; cases hz))
  rw [hpl', hst', hfi', hbo', hor', hbe', hsi', show writeL false [] [] [[1, 2]] [] [] [[48, 7]] = wI from rfl] at C
  have HB2 := Lib.hid hb2'
  clear hy hb2 hb2' hpl hst hfi hbe hor hbo hsi hbo' hsi' hst' hfi' hbe' hor' hpl'
  go_wp2_with (fail)
  (with_reducible refine C.out.mono ?_)
  clear C
  rintro e W4 ⟨X, n, c, rfl, ho4, hb4⟩
  obtain rfl : n = 376 := by have := ho4.len; rw [wI_len] at this; omega
  have hcap := ho4.row.cap
  have hcc : c ≤ 9223372036854775807 := by have := hcap.2; unfold maxLen at this; omega
  have hcn : 376 ≤ c := hcap.1
  have H4 := Lib.hid (And.intro (kp_call HB2.out hb4) ho4.rb)
  have P1 := Lib.hid (digest_any X 376 c wI W4 H4.out.2 (HS.out.below' H4.out.1) hcn hcc)
  clear ho4 hb4 hcap HB2
  go_wp2_with (fail)
  (with_reducible refine P1.out.mono ?_)
  clear P1
  rintro e W5 hp
  unfold DigestP at hp
  rw [HP.out.1] at hp
  obtain ⟨⟨V, m, cV, U, k, cU, xs, rfl, him⟩, hb5⟩ := hp
  rw [HDS.out]
  have H5 := Lib.hid (And.intro (kp_call H4.out.1 hb5) (H4.out.2.below hb5))
  clear him hb5 H4
  go_upto_region 3 with (first
    | (refine wpList_store_row rfl _ _ _ rfl W5.heap.size ds rfl rfl _ _ (has_alloc (has_new W5 (.cells zD 25)) _) DSZ.out DS1.out DSO.out ?_)
    | (refine wpList_store_row rfl _ _ _ rfl (W5.heap.size + 1) (imVal im V m cV U k cU) rfl rfl _ _ ((setRow_other _ _ _ _ (by omega)).trans (has_new' (W5.alloc (.cells zD 25)) (.cells imZero 30) _ (by simp))) (by kernel_rfl) rfl (im_one8 im V m cV U k cU) ?_))
  refine wp_nm fun W6 hW6 => ?_
  obtain ⟨q, hq⟩ : ∃ q, W5.heap.size = q := ⟨_, rfl⟩
  have K6 : Hid (W6.heap[q]? = some (.cells ds 25) ∧ W6.heap[q + 1]? = some (.cells (imVal im V m cV U k cU) 30) ∧ Below W5.heap.size W5 W6) := by
    rw [← hW6, ← hq]
    exact Lib.hid ⟨(setRow_other _ _ _ _ (by omega)).trans (setRow_heap _ _ _ _ _ _ (has_alloc (has_new W5 (.cells zD 25)) _)), setRow_heap _ _ _ _ _ _ ((setRow_other _ _ _ _ (by omega)).trans (has_new' (W5.alloc (.cells zD 25)) (.cells imZero 30) _ (by simp))), below_setRow (below_setRow (kp_alloc (kp_alloc (Below.refl _ _) _) _) (Nat.le_refl _) _) (by omega) _⟩
  have HZq := Lib.hid hq
  rw [hq]
  clear hW6 hq
  have hck := HP.out.2.1
  obtain ⟨b0, b1, b2, b3, b4, b5, b6, b7⟩ := cells_8 K6.out.2.1
  rw [hck] at b1
  have b1' : W6.cell? ⟨q + 1, 1, none⟩ = some (.int .i64 152) := b1
  have H6 := Lib.hid (And.intro (kp_call H5.out.1 K6.out.2.2) (H5.out.2.below K6.out.2.2))
  have HCK := Lib.hid hck
  clear hck b0 b1 b2 b3 b4 b5 b6 b7 H5
  go_wp2_with (fail)
  refine (copy_any X 376 c wI W6 H6.out.2 (by omega)).mono ?_
  rintro e W7 ⟨A7, n7, c7, rfl, ho7, hb7⟩
  obtain rfl : n7 = 376 := by have := ho7.len; rw [wI_len] at this; omega
  obtain ⟨G, rfl, hG1, hG2⟩ := ho7.shape (by have := ho7.row.cap.1; omega)
  have hcap := ho7.row.cap
  have hc7 : c7 ≤ 9223372036854775807 := by have := hcap.2; unfold maxLen at this; omega
  have hn7 : 376 ≤ c7 := hcap.1
  have x1 : W7.cell? ⟨q + 1, 1, none⟩ = some (.int .i64 152) := (hb7.cell (p := ⟨q + 1, 1, none⟩) (block_lt K6.out.2.1)).trans b1'
  obtain ⟨q9, hq9⟩ : ∃ q9, wI[152]? = some q9 := ⟨_, List.getElem?_eq_getElem (by rw [wI_len]; omega)⟩
  have y1 := ho7.cellAt 152 q9 hq9
  have y2 := ho7.free 152
  have hqG : q + 1 < G := by have := block_lt K6.out.2.1; omega
  have HO7 := Lib.hid ho7
  have HB7 := Lib.hid hb7
  have HG1 := Lib.hid hG1
  clear b1' ho7 hb7 hcap hq9 hG1
  go_upto_region 7 with (fail)
  refine wp_nm fun W8 hW8 => ?_
  have hb68 : Below W6.heap.size W6 W8 := by rw [← hW8]; exact kp_set HB7.out HG1.out
  have hr8 : RB W8 (some ⟨G, 0, none⟩) 376 cI := by rw [← hW8]; exact (HO7.out.stored 152 99).rb
  have K8 := Lib.hid (And.intro (has_below K6.out.1 hb68) (And.intro (has_below K6.out.2.1 hb68) (And.intro (kp_call H6.out.1 hb68) (And.intro (H6.out.2.below hb68) hr8))))
  have P2 := Lib.hid (digest_any (some ⟨G, 0, none⟩) 376 c7 cI W8 hr8 (HS.out.below' K8.out.2.2.1) hn7 hc7)
  clear hW8 hb68 hr8 x1 y1 y2 HO7 HB7 HG1 H6 K6
  go_wp2_with (fail)
  (with_reducible refine P2.out.mono ?_)
  clear P2
  rintro e W9 hp
  unfold DigestP at hp
  rw [HC.out.1] at hp
  obtain ⟨⟨V2, m2, cV2, U2, k2, cU2, xs2, he, him⟩, hb9⟩ := hp
  rw [HC.out.2, HDS.out] at he
  subst he
  have H9 := Lib.hid (And.intro (has_below K8.out.1 hb9) (And.intro (has_below K8.out.2.1 hb9) (And.intro (kp_call K8.out.2.2.1 hb9) (K8.out.2.2.2.1.below hb9))))
  clear him hb9 K8
  go_upto_region 8 with (first
    | (refine wpList_store_row rfl _ _ _ rfl W9.heap.size ds rfl rfl _ _ (has_alloc (has_new W9 (.cells zD 25)) _) DSZ.out DS1.out DSO.out ?_)
    | (refine wpList_store_row rfl _ _ _ rfl (W9.heap.size + 1) (imVal im V2 m2 cV2 U2 k2 cU2) rfl rfl _ _ ((setRow_other _ _ _ _ (by omega)).trans (has_new' (W9.alloc (.cells zD 25)) (.cells imZero 30) _ (by simp))) (by kernel_rfl) rfl (im_one8 im V2 m2 cV2 U2 k2 cU2) ?_))
  refine wp_nm fun W10 hW10 => ?_
  obtain ⟨q2, hq2⟩ : ∃ q2, W9.heap.size = q2 := ⟨_, rfl⟩
  have K10 : Hid (W10.heap[q2]? = some (.cells ds 25) ∧ W10.heap[q2 + 1]? = some (.cells (imVal im V2 m2 cV2 U2 k2 cU2) 30) ∧ Below W9.heap.size W9 W10) := by
    rw [← hW10, ← hq2]
    exact Lib.hid ⟨(setRow_other _ _ _ _ (by omega)).trans (setRow_heap _ _ _ _ _ _ (has_alloc (has_new W9 (.cells zD 25)) _)), setRow_heap _ _ _ _ _ _ ((setRow_other _ _ _ _ (by omega)).trans (has_new' (W9.alloc (.cells zD 25)) (.cells imZero 30) _ (by simp))), below_setRow (below_setRow (kp_alloc (kp_alloc (Below.refl _ _) _) _) (Nat.le_refl _) _) (by omega) _⟩
  have HZq2 := Lib.hid hq2
  rw [hq2]
  clear hW10 hq2
  have H10 := Lib.hid (And.intro (has_below H9.out.1 K10.out.2.2) (And.intro (kp_call H9.out.2.2.1 K10.out.2.2) (H9.out.2.2.2.below K10.out.2.2)))
  have R1 := Lib.hid (mranges_any X 376 c wI W10 H10.out.2.2 (HS.out.below' H10.out.2.1) hcn hcc)
  clear H9
  go_wp2_with (fail)
  (with_reducible refine R1.out.mono ?_)
  clear R1
  rintro e W11 hp
  unfold RangesP at hp
  rw [HP.out.1] at hp
  obtain ⟨⟨A11, n11, c11, rfl, hn11, _⟩, hb11⟩ := hp
  have h4n : 4 ≤ n11 := by have := HRL.out; omega
  have t1 : decide ((4 : Int) ≤ (n11 : Int)) = true := by simp; omega
  have t1n : decide (4 ≤ n11) = true := by simp; omega
  have K11 := Lib.hid (And.intro (has_below H10.out.1 hb11) (And.intro (has_below K10.out.1 hb11) (kp_call H10.out.2.1 hb11)))
  obtain ⟨heq, hne⟩ := HEQ.out
  clear hn11 hb11 H10 K10
  go_wp2_with (first
    | (refine wpList_load_rowH rfl _ _ rfl q rfl _ _ _ _ K11.out.1 Tryz.underlying25 rfl DSZ.out ?_)
    | (refine wpList_load_rowH rfl _ _ rfl q2 rfl _ _ _ _ K11.out.2.1 Tryz.underlying25 rfl DSZ.out ?_)
    | (refine wpList_buildH rfl 25 _ rfl zD (by kernel_rfl) ?_))
  go_ret
  exact ⟨rfl, K11.out.2.2⟩
end Go.Proofs.YtcedojmhgmgcgaaGreatDoor
