/-
  sha: works.
-/
import Derived.Test.YtmbkbehccmadfaaShS
import Derived.Lib.SlBytesConst
namespace Go.Proofs.Ytmbkbehccmadfaa
open Go.RowKit Go
set_option linter.unusedVariables false
set_option linter.unusedSimpArgs false
set_option maxRecDepth 100000
theorem abc_dig : sumQ [97, 98, 99] 3 = [186, 120, 22, 191, 143, 1, 207, 234, 65, 65, 64, 222, 93, 174, 34, 35, 176, 3, 97, 163, 150, 23, 122, 156, 180, 16, 255, 97, 242, 0, 21, 173] := by kernel_rfl
def abcL : List UInt8 := [97, 98, 99]
def oneA : List UInt8 := [97]
set_option maxHeartbeats 4000000 in
theorem works_any (w : World) : Calls Try.prog 12 #[] w fun e w' => e = .returned (.bool true) ∧ Below w.heap.size w w' := by
  have kc := fun (w : World) (C : Array Value) (n c : Nat) => Lib.run_convert_bytes_const (P := Try.prog) w 22 5 C n c Try.underlying22 Try.underlying5
  obtain ⟨ds, hds⟩ : ∃ ds, ((sumQ (abcL.map UInt8.toNat) 3).map v8).toArray = ds := ⟨_, rfl⟩
  have hdl : ds.toList = [186, 120, 22, 191, 143, 1, 207, 234, 65, 65, 64, 222, 93, 174, 34, 35, 176, 3, 97, 163, 150, 23, 122, 156, 180, 16, 255, 97, 242, 0, 21, 173].map v8 := by
    rw [← hds, ← abc_dig]
    rfl
  have hone : ds.all (·.oneCell') = true := by rw [← hds]; exact all8 _
  have hsz : ds.size = 32 := by rw [← hds]; simp [sumQ_len]
  have hif : (Try.prog.info? 25).map (·.size) = some ds.size := by rw [hsz]; exact size_32
  have HC := Lib.hid (show _ ∧ _ ∧ _ ∧ _ from ⟨hsz, hone, hif, hdl⟩)
  have SA := Lib.hid (fun W (h : RB W (some ⟨w.heap.size, 0, none⟩) 3 abcL) => sum_any (some ⟨w.heap.size, 0, none⟩) 3 3 abcL W h (by decide) (by decide) (by decide))
  rw [hds] at SA
  clear hds hone hsz hif hdl
  go_enter Try.func12, Try.ntmps12
  go_wp2_with fail
  refine (SA.out _ ⟨rfl, (bs_new w abcL 5 (3, 4) _ rfl).more (by simp)⟩).mono ?_
  rintro e w1 ⟨rfl, hb1⟩
  have hb1' : Below w.heap.size w w1 := kp_call (kp_alloc (Below.refl _ _) _) hb1
  have HB1 := Lib.hid hb1'
  clear hb1 hb1' SA
  go_upto_region 2 with (refine wpList_store_row rfl _ _ _ rfl w1.heap.size ds rfl rfl _ _ (has_new w1 _) HC.out.2.2.1 (by rw [HC.out.1]; rfl) HC.out.2.1 ?_)
  refine wp_nm fun W2 hW2 => ?_
  have hb2 : Below w.heap.size w W2 := by rw [← hW2]; exact below_setRow (kp_alloc HB1.out _) HB1.out.size _
  have a2 : ArrIs W2 w1.heap.size 25 (([186, 120, 22, 191, 143, 1, 207, 234, 65, 65, 64, 222, 93, 174, 34, 35, 176, 3, 97, 163, 150, 23, 122, 156, 180, 16, 255, 97, 242, 0, 21, 173] : List Nat).map v8) := by
    rw [← hW2, ← HC.out.2.2.2]
    exact setRow_heap _ _ _ _ _ _ (has_new w1 _)
  have c0 : W2.cell? ⟨w1.heap.size, 0, none⟩ = some (.int .u8 186) := a2.cell rfl
  have c1 : W2.cell? ⟨w1.heap.size, 1, none⟩ = some (.int .u8 120) := a2.cell rfl
  have c31 : W2.cell? ⟨w1.heap.size, 31, none⟩ = some (.int .u8 173) := a2.cell rfl
  have HB2 := Lib.hid hb2
  have r1 : RB ((W2.alloc (.cells (oneA.map bv).toArray 5 (1, 2))).alloc (.cells (oneA.map bv).toArray 5 (1, 2))) (some ⟨W2.heap.size, 0, none⟩) 1 oneA :=
    ⟨rfl, ((bs_new W2 oneA 5 (1, 2) (oneA.map bv).toArray rfl).alloc (by simp) _).more (by simp)⟩
  have r2 : RB ((W2.alloc (.cells (oneA.map bv).toArray 5 (1, 2))).alloc (.cells (oneA.map bv).toArray 5 (1, 2))) (some ⟨W2.heap.size + 1, 0, none⟩) 1 oneA := by
    have h := (bs_new (W2.alloc (.cells (oneA.map bv).toArray 5 (1, 2))) oneA 5 (1, 2) (oneA.map bv).toArray rfl).more (B' := W2.heap.size + 2) (by simp)
    rw [World.size_alloc] at h
    exact ⟨rfl, h.more (by simp)⟩
  have S1 := Lib.hid (same_any (some ⟨W2.heap.size, 0, none⟩) (some ⟨W2.heap.size + 1, 0, none⟩) 1 1 1 1 oneA oneA _ r1 r2 (by decide) (by decide))
  have S2 := Lib.hid (fun (W : World) => same_any (some ⟨W.heap.size, 0, none⟩) none 1 0 1 0 oneA [] (W.alloc (.cells (oneA.map bv).toArray 5 (1, 2))) ⟨rfl, (bs_new W oneA 5 (1, 2) (oneA.map bv).toArray rfl).more (by simp)⟩ (RB.nil _ _) (by decide) (by decide))
  have kc2 : ∀ (W : World) (D : Obj) (C : Array Value) (n c : Nat), (convert 22 22 (.slice (some ⟨W.heap.size + 1, 0, none⟩) n c)).run Try.prog ((W.alloc D).alloc (.cells C 5)) = .ok (.slice (some ⟨W.heap.size + 1, 0, none⟩) n c) ((W.alloc D).alloc (.cells C 5 (C.size, C.size + 1))) := fun W D C n c => by
    have h := kc (W.alloc D) C n c
    rwa [World.size_alloc] at h
  have HB4 := Lib.hid (kp_alloc (kp_alloc hb2 (.cells (oneA.map bv).toArray 5 (1, 2))) (.cells (oneA.map bv).toArray 5 (1, 2)))
  clear hW2 hb2 a2 HB1 HC r1 r2 HB2
  go_wp2_with fail
  refine S1.out.mono ?_
  rintro e w5 ⟨rfl, q, hw5⟩
  have HB5 : Hid (Below w.heap.size w w5) := by rw [hw5]; exact kp_drewN HB4.out q
  clear hw5 HB4 S1 kc2
  go_wp2_with fail
  refine (S2.out _).mono ?_
  rintro e w6 ⟨rfl, q2, hw6⟩
  have HB6 : Hid (Below w.heap.size w w6) := by rw [hw6]; exact kp_drewN (kp_alloc HB5.out _) q2
  clear hw6 HB5 S2
  go_wp2
  go_ret
  exact ⟨rfl, HB6.out⟩
end Go.Proofs.Ytmbkbehccmadfaa
