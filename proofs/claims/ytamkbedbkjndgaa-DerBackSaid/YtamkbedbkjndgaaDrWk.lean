/-
  der: the statements' anchor.
-/
import Derived.Test.YtamkbedbkjndgaaDrK
import Derived.Test.YtamkbedbkjndgaaDrM
import Derived.Test.YtamkbedbkjndgaaDrQ
namespace Go.Proofs.Ytamkbedbkjndgaa
open Go.RowKit Go
set_option linter.unusedVariables false
set_option maxRecDepth 100000
theorem oidQ_840 : oidQ [42, 134, 72] = some [1, 2, 840] := by
  have h1 : numQ [42, 134, 72] = some (42, 1) := by decide
  have h2 : numQ [134, 72] = some (840, 2) := by decide
  unfold oidQ
  rw [numsQ_some h1]
  show (match (numsQ [134, 72]).map (42 :: ·) with | some (x :: r) => some (arcs (x :: r)) | _ => none) = _
  rw [numsQ_some h2]
  show (match ((numsQ []).map (840 :: ·)).map (42 :: ·) with | some (x :: r) => some (arcs (x :: r)) | _ => none) = _
  rw [numsQ_nil]
  rfl
theorem checkQ_30 : checkQ [48, 2, 48, 0] = 0 := by
  have h1 : splitQ [48, 2, 48, 0] = some (2, 4) := by decide
  have h2 : splitQ [48, 0] = some (2, 2) := by decide
  have e2 : allQ [48, 0] = some [([48, 0], [])] := by
    rw [allQ_some h2]
    show (allQ []).map _ = _
    rw [allQ_nil]
    rfl
  unfold checkQ
  rw [allQ_some h1]
  show (match (allQ []).map ((([48, 2, 48, 0] : List UInt8), ([48, 0] : List UInt8)) :: ·) with | some [p] => chk 15 p.1 p.2 | _ => 9) = 0
  rw [allQ_nil]
  show chk 15 [48, 2, 48, 0] [48, 0] = 0
  rw [chk_some (by decide) e2]
  show firstN [chk 14 [48, 0] []] = 0
  rw [chk_leaf 14 (.inr rfl)]
  rfl
theorem wr_200 : (wrQ 4 (List.replicate 200 0)).length = 203 := by
  have h1 : lenB 200 = [200] := by rw [lenB_pos (by omega), show 200 / 256 = 0 from rfl, lenB_zero]; rfl
  have h2 : (List.replicate 200 (0 : UInt8)).length = 200 := by simp
  unfold wrQ
  rw [h2, if_neg (by omega), h1]
  simp
section
variable {w : World} {ops : Array Oper} {rest : List Oper} {o : Oper} {a : Act} {Q : Exit → Act → World → Prop}
/-- 'make([]byte, n)' behind a guard that holds. -/
theorem wpList_mkw (l c : Operand) (ho : o.op = .makeSlice 22 l c) (hw : Region.wanted o (yielded ops a.tmps) = true) (kl kc : IntKind) (n : Nat) (hl : a.eval l = .int kl (n : Int)) (hc : a.eval c = .int kc (n : Int)) (hlim : n ≤ 140737488355328)
    (h : ∀ w', OwnB w' w.heap.size (some ⟨w.heap.size, 0, none⟩) n n (List.replicate n 0) → w.grownBy w' none → wpList Try.prog ops Q rest (a.put o.dst (.slice (some ⟨w.heap.size, 0, none⟩) n n)) w') : wpList Try.prog ops Q (o :: rest) a w := by
  obtain ⟨i, hi, hz0, hz1, hz2⟩ := info_parts u8_info
  obtain ⟨w', hrun, r1, r2⟩ := run_make_full (P := Try.prog) w w.heap.size 22 5 i (.int .u8 0) 1 Try.underlying22 hi hz0 hz1 kl kc n (by rw [hz2]; omega) (by unfold maxLen; omega) (Nat.le_refl _)
  refine wpList_step fun K hK => ?_
  rw [if_pos hw]
  unfold Oper.wp
  simp [execOp, ho, hl, hc, hrun, Result.andThen]
  refine hK _ _ (h w' ?_ r2)
  unfold OwnB
  rw [Nat.mul_one] at r1
  rw [show (Value.int .u8 0).cells = #[.int .u8 0] from rfl, toList_madeCells_one] at r1
  rw [List.map_replicate]
  exact r1
end
theorem own_bytes (w : World) (bs : List UInt8) (n : Nat) (cs : Array Value) (h : cs.toList = bs.map bv) (hn : bs.length = n) (hm : n ≤ 1000000) : RB (w.alloc (.cells cs 5)) (some ⟨w.heap.size, 0, none⟩) n bs := (own_lit w bs n cs h hn hm).rb
set_option maxHeartbeats 2000000 in
theorem works_any (w : World) : Calls Try.prog 8 #[] w fun e w' => e = .returned (.bool true) ∧ Below w.heap.size w w' := by
  have P : Hid (Calls Try.prog 24 #[.slice (some ⟨w.heap.size, 0, none⟩) 4 4] (w.alloc (.cells #[.int .u8 2, .int .u8 1, .int .u8 5, .int .u8 255] 5)) fun e w' => ∃ g c1 A2 c2 A3 c3, e = .returned (.tuple #[.agg #[.int .u8 2, .slice (some ⟨g, 0, none⟩) 1 c1, .slice A2 3 c2], .slice A3 1 c3, .int .i64 0]) ∧ w'.cell? ⟨g, 0, none⟩ = some (.int .u8 5) ∧ Below w.heap.size w w') := by
    refine (parse_any _ 4 4 [2, 1, 5, 255] _ (own_bytes w [2, 1, 5, 255] 4 _ rfl rfl (by omega)) (by omega) (by omega) (by omega)).mono fun e w' hp => ?_
    unfold ParsePost at hp
    rw [show splitQ [2, 1, 5, 255] = some (2, 3) by decide] at hp
    obtain ⟨⟨A1, n1, c1, A2, n2, c2, A3, n3, c3, rfl, o1, o2, o3, _⟩, hb⟩ := hp
    obtain rfl : 1 = n1 := o1.len
    obtain rfl : 3 = n2 := o2.len
    obtain rfl : 1 = n3 := o3.len
    obtain ⟨g, rfl, _, _⟩ := o1.shape (by have := o1.cap; omega)
    exact ⟨g, c1, A2, c2, A3, c3, rfl, o1.cellAt 0 5 rfl, kp_call (kp_alloc (Below.refl _ _) _) hb⟩
  go_enter Try.func8, Try.ntmps8
  go_wp2_with fail
  refine P.out.mono ?_
  rintro e w1 ⟨g, c1, A2, c2, A3, c3, rfl, hc, hb1⟩
  go_wp2_with fail
  refine calls_nm fun W hW => ?_
  have kE : W.heap[w1.heap.size]? = some (.cells #[.int .u8 2, .slice (some ⟨g, 0, none⟩) 1 c1, .slice A2 3 c2] 43) := by rw [← hW]; exact has_alloc (has_new _ _) _
  have hb1W : Below w1.heap.size w1 W := by rw [← hW]; exact kp_alloc (kp_alloc (Below.refl _ _) _) _
  have hR : RB W (some ⟨w1.heap.size + 1, 0, none⟩) 3 [42, 134, 72] := by
    have := own_bytes (w1.alloc (.cells #[.int .u8 2, .slice (some ⟨g, 0, none⟩) 1 c1, .slice A2 3 c2] 43)) [42, 134, 72] 3 #[.int .u8 42, .int .u8 134, .int .u8 72] rfl rfl (by omega)
    rw [World.size_alloc] at this
    rw [← hW]
    exact this
  have hcW := kp_cell hb1W hc
  clear hW hc
  refine ((oid_any _ 3 3 [42, 134, 72] W hR (by omega) (by omega) (by omega)).mono (R' := fun e w' => (∃ A c, e = .returned (.tuple #[.slice A 3 c, .bool true]) ∧ ∃ g, A = some ⟨g, 0, none⟩ ∧ w'.cell? ⟨g, 2, none⟩ = some (.int .u64 840)) ∧ Below W.heap.size W w') ?_).mono ?_
  · intro e w' hp
    unfold OidPost at hp
    rw [oidQ_840] at hp
    obtain ⟨⟨A, n, c, rfl, ho⟩, hb⟩ := hp
    obtain rfl : n = 3 := by have := ho.len; simpa using this.symm
    obtain ⟨g, rfl, _, _⟩ := ho.shape (by have := ho.cap; omega)
    obtain ⟨b', off', e', _, hc2⟩ := ho.reads.at_ (j := 2) (u := u64v 840) rfl
    cases e'
    exact ⟨⟨_, c, rfl, g, rfl, by rw [Nat.zero_add] at hc2; exact hc2⟩, hb⟩
  rintro e w2 ⟨⟨L, lc, rfl, gl, rfl, hcl⟩, hb2⟩
  obtain ⟨q0, q1, q2⟩ := cells_3 (has_below kE hb2)
  have q3 := kp_cell hb2 hcW
  have hbw2 : Below w.heap.size w w2 := kp_call (kp_call hb1 hb1W) hb2
  have HB2 := Lib.hid hbw2
  clear kE hb1W hR hcW hb2 hb1 hbw2
  go_wp2_with (refine wpList_mkw _ _ rfl (by rfl) _ _ 200 rfl rfl (by omega) ?_)
  intro w3 hmk hg3
  have hb23 : Below w2.heap.size w2 w3 := (Below.refl _ _).grown hg3 (Nat.le_refl _) (by intro g hg; cases hg)
  have WR := Lib.hid (write_any 4 (some ⟨w2.heap.size, 0, none⟩) 200 200 (List.replicate 200 0) w3 hmk.rb (by omega))
  clear hmk hg3
  go_wp2_with fail
  refine WR.out.mono ?_
  rintro e w4 ⟨A4, n4, c4, rfl, ho4, hb4⟩
  obtain rfl : 203 = n4 := by
    have := ho4.len
    rw [← this, wr_200]
  have CK := Lib.hid (Check_any (some ⟨w4.heap.size, 0, none⟩) 4 4 [48, 2, 48, 0] (w4.alloc (.cells #[.int .u8 48, .int .u8 2, .int .u8 48, .int .u8 0] 5)) (own_bytes w4 [48, 2, 48, 0] 4 _ rfl rfl (by omega)) (by omega) (by omega) (by omega))
  rw [checkQ_30] at CK
  have hbw4 := Lib.hid (kp_call (kp_call HB2.out hb23) hb4)
  clear ho4 hb23 hb4
  go_wp2_with fail
  refine CK.out.mono ?_
  rintro e w5 ⟨rfl, hb5⟩
  go_wp2
  go_ret
  exact ⟨rfl, kp_call (kp_alloc hbw4.out _) hb5⟩
theorem large_any (A : Option Addr) (n c : Nat) (w : World) : Calls Try.prog 7 #[.slice A n c] w fun e w' => e = .returned (.bool (decide ((8192 : Int) < (n : Int)))) ∧ w = w' := by
  go_enter Try.func7, Try.ntmps7
  go_wp2
  go_ret
  exact ⟨rfl, rfl⟩
end Go.Proofs.Ytamkbedbkjndgaa
