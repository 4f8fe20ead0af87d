/-
  sha: Sum.
-/
import Derived.Test.YtmbkbehccmadfaaShR
namespace Go.Proofs.Ytmbkbehccmadfaa
open Go.RowKit Go
set_option linter.unusedVariables false
set_option linter.unusedSimpArgs false
set_option maxRecDepth 100000
def zeroV : V8 := ⟨0, 0, 0, 0, 0, 0, 0, 0⟩
theorem zeroState_eq : zeroState = stCells zeroV (List.replicate 64 0) 0 0 false := by rfl
theorem holds_new (w : World) (g : Nat) (hg : g = w.heap.size) : Holds (w.alloc (.cells zeroState.toArray 39)) g [] 0 :=
  Or.inr ⟨rfl, zeroV, List.replicate 64 0, by rw [← zeroState_eq]; exact has_new' _ _ _ hg, by simp, by intro x hx; rw [(List.mem_replicate.1 hx).2]; decide⟩
theorem Src.of_rb {w : World} {S : Nat} {A : Option Addr} {n : Nat} {bs : List UInt8} (h : RB w A n bs) (hS : w.heap.size ≤ S) {w' : World} (hb : Below w.heap.size w w') : Src w' S A bs := fun hn => by
  obtain ⟨b, off, e, hl, hc⟩ := h.2 hn
  refine ⟨b, off, e, by omega, Nat.lt_of_lt_of_le hl hb.size, fun j hj => ?_⟩
  rw [hb.cell (p := ⟨b, off + j, none⟩) hl]
  exact hc j hj
set_option maxHeartbeats 4000000 in
theorem sum_any (A : Option Addr) (n c : Nat) (bs : List UInt8) (w : World) (h : RB w A n bs) (hn1 : n ≤ 1000000000) (hnc : n ≤ c) (hc1 : c ≤ 9223372036854775807) :
    Calls Try.prog 14 #[.slice A n c] w fun e w' => e = .returned (.agg ((sumQ (bs.map UInt8.toNat) n).map v8).toArray) ∧ Below w.heap.size w w' := by
  obtain ⟨B, hB⟩ : ∃ B, w.heap.size = B := ⟨_, rfl⟩
  have HRB := Lib.hid h
  clear h
  go_enter Try.func14, Try.ntmps14
  go_wp2_with fail
  refine (new_any _).mono ?_
  rintro e w2 ⟨rfl, hw2⟩
  have hs1 : (w.alloc (.cells (List.replicate 32 (.int .u8 0)).toArray 25)).heap.size = B + 1 := by simp [hB]
  have hb2 : Below w.heap.size w w2 := by rw [hw2]; exact kp_alloc (kp_alloc (Below.refl _ _) _) _
  have k0 : ArrIs w2 B 25 (part8 32 []) := by rw [hw2]; exact has_alloc (has_new' _ _ _ hB.symm) _
  have k1 : Holds w2 (B + 1) [] 0 := by rw [hw2]; exact holds_new _ _ (by simp [hB])
  have WA := Lib.hid (write_any (B + 1) A n c [] 0 bs w2 k1 (Src.of_rb HRB.out (by omega) hb2) HRB.out.1 hn1 hnc hc1 (by decide))
  rw [List.nil_append, Nat.zero_add, Nat.mod_eq_of_lt (show n < 18446744073709551616 by omega)] at WA
  have H2 : Hid (Below w.heap.size w w2 ∧ ArrIs w2 B 25 (part8 32 [])) := ⟨hb2, k0⟩
  clear hw2 hb2 k0 k1
  go_wp2_with fail
  refine WA.out.mono ?_
  rintro e w3 ⟨rfl, ho3, hg3⟩
  obtain ⟨q1, q2⟩ := H2.out
  have H3 : Hid (Below w.heap.size w w3 ∧ ArrIs w3 B 25 (part8 32 [])) := ⟨below_of_grown q1 hg3 (by omega), (hg3.block B q2.lt (by intro e; injection e with e; omega)).trans q2⟩
  have SA := Lib.hid (stsum_any (B + 1) (bs.map UInt8.toNat) n w3 (Or.inl ho3) (by omega))
  obtain ⟨ds, hds⟩ : ∃ ds, ((sumQ (bs.map UInt8.toNat) n).map v8).toArray = ds := ⟨_, rfl⟩
  have hone : ds.all (·.oneCell') = true := by rw [← hds]; exact all8 _
  have hsz : ds.size = 32 := by rw [← hds]; simp [sumQ_len]
  have hif : (Try.prog.info? 25).map (·.size) = some ds.size := by rw [hsz]; exact size_32
  have HC := Lib.hid (show _ ∧ _ ∧ _ from ⟨hsz, hone, hif⟩)
  rw [hds] at SA
  have HDS := Lib.hid hds
  clear q1 q2 ho3 hg3 WA H2 hone hsz hif hds
  go_wp2_with fail
  refine SA.out.mono ?_
  rintro e w4 ⟨rfl, hb4⟩
  obtain ⟨q1, q2⟩ := H3.out
  have A0 : Hid (w4.heap[B]? = some (.cells (part8 32 []).toArray 25 (0, 0))) := q2.below hb4
  have AR : Hid ((w4.setRow B ds).heap[B]? = some (.cells ds 25 (0, 0))) := setRow_heap w4 _ _ _ _ _ A0.out
  have HBW := Lib.hid (below_setRow (kp_call q1 hb4) (show w.heap.size ≤ B by omega) ds)
  clear q1 q2 hb4 H3 SA
  go_wp2_with (refine wpList_store_row rfl _ _ _ rfl B ds rfl rfl _ _ A0.out HC.out.2.2 (by rw [HC.out.1]; rfl) HC.out.2.1 ?_)
  refine bodyPost_ret (results_cell_row rfl _ _ B _ _ _ _ rfl AR.out Try.underlying25 rfl HC.out.2.2) rfl ?_
  exact ⟨by rw [HDS.out], HBW.out⟩
end Go.Proofs.Ytmbkbehccmadfaa
