/-
  measure: Digest.
-/
import Derived.Test.YtcedojmhgmgcgaaGreatDoorMeG
import Derived.Test.YtcedojmhgmgcgaaGreatDoorMeH
import Derived.Test.YtcedojmhgmgcgaaGreatDoorMp2
import Derived.Stop.RegionWithIn
namespace Go.Proofs.YtcedojmhgmgcgaaGreatDoor
open Go.RowKit Go
set_option linter.unusedVariables false
set_option linter.unusedSimpArgs false
set_option maxRecDepth 100000
attribute [local go_sem] Oper.semAt_some
def zD : Array Value := (z32.map v8).toArray
/-- The digest of an image. -/
def digQ (bs : List UInt8) (im : Im) : List Nat := sumQ ((hashedL bs (rangesM im bs.length)).map UInt8.toNat) (hashedL bs (rangesM im bs.length)).length
def DigestP (w : World) (bs : List UInt8) (e : Ending) (w' : World) : Prop :=
  (match parseQ bs with
    | .inl er => e = .returned (.tuple #[.agg zD, .agg imZero, .int .i64 (er : Nat)])
    | .inr im => ∃ (V : Option Addr) (m cV : Nat) (U : Option Addr) (k cU : Nat) (xs : List Own1), e = .returned (.tuple #[.agg ((digQ bs im).map v8).toArray, .agg (imVal im V m cV U k cU), .int .i64 0]) ∧ ImOwn w.heap.size im V m cV U k cU xs w') ∧ Below w.heap.size w w'
/-- What stands between two rounds. -/
structure ID (w w6 : World) (S : Nat) (bs : List UInt8) (A : Option Addr) (m c : Nat) (vs : List Value) (pre : List (Nat × Nat)) (W : World) : Prop where
  old : ∀ b, b < w6.heap.size → b ≠ S → W.heap[b]? = w6.heap[b]?
  bel : Below w.heap.size w W
  st : Holds W S ((hashedL bs pre).map UInt8.toNat) (hashedL bs pre).length
  row : OwnR W (S + 1) 60 2 A m c vs
section
variable {w w6 : World} {S : Nat} {bs : List UInt8} {A : Option Addr} {m c : Nat} {vs : List Value} {pre : List (Nat × Nat)} {W : World}
theorem ID.alloc (h : ID w w6 S bs A m c vs pre W) (hz : w6.heap.size ≤ W.heap.size) (o : Obj) : ID w w6 S bs A m c vs pre (W.alloc o) :=
  ⟨fun b hb hne => (heap_alloc_old _ _ (by omega)).trans (h.old b hb hne), kp_alloc h.bel _, h.st.below (kp_alloc (Below.refl _ _) _), h.row.alloc _⟩
theorem ID.put (h : ID w w6 S bs A m c vs pre W) {b : Nat} {o : Obj} (h1 : w6.heap.size ≤ b) (hS : S < w6.heap.size) (hw : w.heap.size ≤ S) (hA : ∀ g, blk A = some g → g < w6.heap.size) : ID w w6 S bs A m c vs pre (W.putObj b o) :=
  ⟨fun j hj hne => (World.putObj_heap_other (by omega)).trans (h.old j hj hne), h.bel.grown (grownBy_putObj' W b o) h.bel.size (fun g hg => by injection hg with hg; omega), h.st.grown (grownBy_putObj' W b o) (fun e => by injection e with e; omega), h.row.kept (grownBy_putObj' W b o) (.inr (fun e => by have := hA _ e; omega))⟩
theorem ID.write {W' : World} {x : Nat × Nat} (h : ID w w6 S bs A m c vs pre W) (hw : w.heap.size ≤ S) (hz : w6.heap.size ≤ W.heap.size) (hg : W.grownBy W' (some S)) (hs : Holds W' S ((hashedL bs (pre ++ [x])).map UInt8.toNat) (hashedL bs (pre ++ [x])).length) : ID w w6 S bs A m c vs (pre ++ [x]) W' :=
  ⟨fun b hb hne => (hg.block b (by omega) (fun e => hne (by injection e))).trans (h.old b hb hne), h.bel.grown hg h.bel.size (fun g e => by injection e with e; omega), hs, h.row.kept hg (.inr (fun e => by have := (h.row.blk_lt e).1; omega))⟩
end
theorem writes_piece (w W : World) (S : Nat) (A SA : Option Addr) (n c lo hi : Nat) (bs : List UInt8) (pre : List (Nat × Nat)) (hR : RB w SA (hi - lo) (seg bs (lo, hi))) (hw : w.heap.size ≤ S) (hb : Below w.heap.size w W) (hs : Holds W S ((hashedL bs pre).map UInt8.toNat) (hashedL bs pre).length) (hn : bs.length ≤ 16777216) (hl : lo ≤ hi) (hh : hi ≤ n) (hnl : bs.length = n) (hnc : n ≤ c) (hcc : c ≤ 9223372036854775807) (hp : pre.length ≤ 2000) :
    Calls Tryz.prog 17 #[.pointer (some ⟨S, 0, none⟩), .slice SA (hi - lo) (c - lo)] W fun e w' => e = .returned (.tuple #[]) ∧ Holds w' S ((hashedL bs (pre ++ [(lo, hi)])).map UInt8.toNat) (hashedL bs (pre ++ [(lo, hi)])).length ∧ W.grownBy w' (some S) := by
  have h1 := hashed_le bs pre
  have h2 : pre.length * bs.length ≤ 2000 * 16777216 := Nat.mul_le_mul hp hn
  refine (write_any S SA (hi - lo) (c - lo) _ _ (seg bs (lo, hi)) W hs (Src.of_rb hR hw hb) hR.1 (by omega) (by omega) (by omega) (by omega)).mono ?_
  rintro e w' ⟨rfl, ho, hg⟩
  refine ⟨rfl, ?_, hg⟩
  rw [hashed_snoc, List.map_append, List.length_append, hR.1]
  rw [Nat.mod_eq_of_lt (by omega)] at ho
  exact Or.inl ho
theorem zD_one : zD.all (·.oneCell') = true := by kernel_rfl
theorem dig_one (l : List Nat) : ((l.map v8).toArray).all (·.oneCell') = true := by
  rw [List.all_toArray, List.all_eq_true]
  intro v hv
  obtain ⟨x, _, rfl⟩ := List.mem_map.1 hv
  rfl
theorem im_one8 (im : Im) (V : Option Addr) (m cV : Nat) (U : Option Addr) (k cU : Nat) : (imVal im V m cV U k cU).all (·.oneCell') = true := by simp [imVal, Value.oneCell']
theorem zD_size : (Tryz.prog.info? 25).map (·.size) = some zD.size := by kernel_rfl
set_option maxHeartbeats 4000000 in
theorem digest_no (A : Option Addr) (n c : Nat) (bs : List UInt8) (w : World) (hR : RB w A n bs) (hS : Sizes w) (hnc : n ≤ c) (hcc : c ≤ 9223372036854775807) (er : Nat) (hq : parseQ bs = .inl er) :
    Calls Tryz.prog 6 #[.slice A n c] w fun e w' => e = .returned (.tuple #[.agg zD, .agg imZero, .int .i64 (er : Nat)]) ∧ Below w.heap.size w w' := by
  have her := parse_er hq
  have HQ := Lib.hid hq
  have t1 : ((er : Int) != 0) = true := by simp; omega
  refine (callsIn_wide (n := 4)).1 ?_
  refine callsIn_of_wp_marks Tryz.func6 rfl trivial ?_ rfl
  simp only [Tryz.ntmps6, List.size_toArray, List.length_cons, List.length_nil, Nat.reduceAdd, Nat.reduceSub, Array.replicate_succ, Array.replicate_zero, List.push_toArray, List.append_toArray, List.nil_append, List.cons_append]
  refine wpIn_wide.2 ?_
  go_upto_region 1 with (fail)
  refine wp_nm fun W0 hW0 => ?_
  obtain ⟨g, hg⟩ : ∃ g, w.heap.size = g := ⟨_, rfl⟩
  have k1 : W0.heap[g]? = some (.cells #[.slice A n c] 22) := by rw [← hW0, ← hg]; exact has_alloc (has_alloc (has_new w _) _) _
  have k2 : W0.heap[g + 1]? = some (.cells zD 25) := by rw [← hW0]; exact has_alloc (has_new' _ _ _ (by simp [hg])) _
  have k3 : W0.heap[g + 2]? = some (.cells imZero 30) := by rw [← hW0]; exact has_new' _ _ _ (by simp [hg])
  have hb0 : Below w.heap.size w W0 := by rw [← hW0]; exact kp_alloc (kp_alloc (kp_alloc (Below.refl _ _) _) _) _
  have x1 := cells_1 k1
  have C := Lib.hid (parse_any A n c bs W0 (hR.below hb0) (hS.below' hb0) hnc hcc)
  have H0 := Lib.hid (And.intro k2 (And.intro k3 hb0))
  have HGW := Lib.hid hg
  rw [hg]
  clear hW0 k1 k2 k3 hb0 hR hS hq hg
  go_wp2_with (fail)
  (with_reducible refine C.out.mono ?_)
  clear C
  rintro e w1 ⟨hp, hb1⟩
  rw [HQ.out] at hp
  obtain rfl : e = .returned (.tuple #[.agg imZero, .int .i64 (er : Nat)]) := hp
  have H1 := Lib.hid (And.intro (has_below H0.out.1 hb1) (And.intro (has_below H0.out.2.1 hb1) (kp_call H0.out.2.2 hb1)))
  clear hb1 x1 H0
  go_upto_region 2 with (refine wpList_store_row rfl _ _ _ rfl w1.heap.size imZero rfl rfl _ _ (has_new w1 _) (by kernel_rfl) rfl (by simp [imZero, Value.oneCell']) ?_)
  refine wp_nm fun W3 hW3 => ?_
  have hb3 : Below w1.heap.size w1 W3 := by rw [← hW3]; exact below_setRow (kp_alloc (Below.refl _ _) _) (Nat.le_refl _) _
  have H3 := Lib.hid (And.intro (has_below H1.out.1 hb3) (And.intro (has_below H1.out.2.1 hb3) (kp_call H1.out.2.2 hb3)))
  clear hW3 hb3 H1
  go_wp2_with (first
    | (refine wpList_buildTo rfl 25 _ rfl _ rfl zD (by kernel_rfl) ?_)
    | (refine wpList_buildTo rfl 30 _ rfl _ rfl imZero (by kernel_rfl) ?_)
    | (refine wpList_store_row rfl _ _ _ rfl (g + 1) zD rfl rfl _ _ H3.out.1 zD_size rfl zD_one ?_)
    | (refine wpList_store_row rfl _ _ _ rfl (g + 2) imZero rfl rfl _ _ ((setRow_other _ _ _ _ (by omega)).trans H3.out.2.1) (by kernel_rfl) rfl (by simp [imZero, Value.oneCell']) ?_))
  have q1 : ((W3.setRow (g + 1) zD).setRow (g + 2) imZero).heap[g + 1]? = some (.cells zD 25) := (setRow_other _ _ _ _ (by omega)).trans (setRow_heap _ _ _ _ _ _ H3.out.1)
  have q2 : ((W3.setRow (g + 1) zD).setRow (g + 2) imZero).heap[g + 2]? = some (.cells imZero 30) := setRow_heap _ _ _ _ _ _ ((setRow_other _ _ _ _ (by omega)).trans H3.out.2.1)
  refine ⟨_, results_cct rfl _ (LV.agg q1 Tryz.underlying25 rfl zD_size) (LV.agg q2 Tryz.underlying30 rfl (by kernel_rfl)), ?_⟩
  exact ⟨rfl, below_setRow (below_setRow H3.out.2.2 (by have := HGW.out; omega) _) (by have := HGW.out; omega) _⟩
end Go.Proofs.YtcedojmhgmgcgaaGreatDoor
