/-
  vname: the document's Right, Key, Fits (made by genVnJ.py).
-/
import Derived.Test.YtjcbmgpmlekamaaVnG
import Derived.Test.YtjcbmgpmlekamaaAppS
namespace Go.Proofs.Ytjcbmgpmlekamaa
open Go.RowKit Go
set_option linter.unusedVariables false
set_option linter.unusedSimpArgs false
set_option maxRecDepth 100000
theorem own_nil0 (w : World) : OwnB (w.alloc (.cells #[] 5)) w.heap.size (some ⟨w.heap.size, 0, none⟩) 0 0 [] :=
  ⟨rfl, .inr ⟨w.heap.size, 0, #[], rfl, Nat.le_refl _, heap_alloc_new w _, Nat.le_refl _, Nat.zero_le _, rfl, rfl⟩⟩
set_option maxHeartbeats 4000000 in
theorem dright_any (s : ByteArray) (hs : s.size ≤ 1000000000) (w : World) : Calls Try.prog 16 #[.string s] w fun e w' => e = .returned (.bool (rightL s.data.toList)) ∧ w' = w := by
  have hsz := data_size s
  have HR : Hid (rightL s.data.toList = ((decide (1 ≤ s.size) && decide (s.size ≤ 64)) && s.data.toList.all fineB)) := by unfold Hid rightL; rw [hsz, Bool.decide_and]
  have HS := Lib.hid hsz
  have hN := Lib.hid hs
  clear hsz hs
  go_enter Try.func16, Try.ntmps16
  go_wp2_with fail
  go_loopw [3] (fun v wl => ∃ i : Nat, v = .int .i64 (i : Int) ∧ i ≤ s.size ∧ Hid ((s.data.toList.take i).all fineB = true ∧ wl = w)) (fun v _ => s.size - (intOf v).toNat)
  case atStart => exact ⟨0, rfl, Nat.zero_le _, rfl, rfl⟩
  case round =>
    obtain ⟨i, rfl, hi, HK⟩ := hrel
    by_cases hlt : i < s.size
    · have i1 : (i : Int) < (s.size : Int) := by omega
      have i0 : (0 : Int) ≤ (i : Int) := by omega
      have e9 : IntKind.i64.wrap ((i : Int) + 1) = (i : Int) + 1 := IntWalk.i64_in _ (by have := hN.out; omega)
      obtain ⟨p, hp⟩ : ∃ p, s.data.toList[i]? = some p := ⟨_, List.getElem?_eq_getElem (by rw [HS.out]; exact hlt)⟩
      have hix := str_at s i hlt p hp
      have HP := Lib.hid hp
      clear hp
      by_cases a1 : p.toNat < 33
      · have t1 : decide ((p.toNat : Int) < 33) = true := decide_eq_true (by omega)
        have FIN : Hid (rightL s.data.toList = false ∧ wr = w) := ⟨by
          rw [HR.out]
          rw [Bool.and_eq_false_iff]; right
          have : ¬ s.data.toList.all fineB = true := fun h => by
            have h9 := List.all_eq_true.1 h p (List.mem_of_getElem? HP.out)
            unfold fineB at h9
            rw [decide_eq_false (by omega)] at h9
            cases h9
          simpa using this, HK.out.2⟩
        clear HK HP
        go_wp2_with fail
        go_ret
        rw [FIN.out.1]
        exact ⟨rfl, FIN.out.2⟩
      · have t1 : decide ((p.toNat : Int) < 33) = false := decide_eq_false (by omega)
        by_cases a2 : 126 < p.toNat
        · have t2 : decide ((p.toNat : Int) > 126) = true := decide_eq_true (by omega)
          have FIN : Hid (rightL s.data.toList = false ∧ wr = w) := ⟨by
            rw [HR.out]
            rw [Bool.and_eq_false_iff]; right
            have : ¬ s.data.toList.all fineB = true := fun h => by
              have h9 := List.all_eq_true.1 h p (List.mem_of_getElem? HP.out)
              unfold fineB at h9
              rw [decide_eq_false (show ¬ p.toNat ≤ 126 by omega)] at h9
              simp at h9
            simpa using this, HK.out.2⟩
          clear HK HP
          go_wp2_with fail
          go_ret
          rw [FIN.out.1]
          exact ⟨rfl, FIN.out.2⟩
        · have t2 : decide ((p.toNat : Int) > 126) = false := decide_eq_false (by omega)
          have NXT : Hid ((s.data.toList.take (i + 1)).all fineB = true ∧ wr = w) := ⟨by
            rw [List.take_add_one, List.all_append, HK.out.1, HP.out]
            simp only [Option.toList_some, List.all_cons, List.all_nil, Bool.and_true, Bool.true_and]
            unfold fineB
            rw [decide_eq_true (by omega), decide_eq_true (by omega)]; rfl, HK.out.2⟩
          clear HK HP
          go_wp2_with fail
          go_roundw
          case rel => exact ⟨i + 1, by go_num, by omega, NXT⟩
          case measure => simp [intOf]; omega
    · have i1 : ¬ (i : Int) < (s.size : Int) := by omega
      have FA : Hid (rightL s.data.toList = (decide (1 ≤ s.size) && decide (s.size ≤ 64)) ∧ wr = w) := ⟨by
        rw [HR.out]
        have h9 := HK.out.1
        rw [List.take_of_length_le (by rw [HS.out]; omega)] at h9
        rw [h9, Bool.and_true], HK.out.2⟩
      clear HK
      by_cases c1 : 1 ≤ s.size
      · have t1 : decide ((s.size : Int) ≥ 1) = true := decide_eq_true (by omega)
        by_cases c2 : s.size ≤ 64
        · have t2 : decide ((s.size : Int) ≤ 64) = true := decide_eq_true (by omega)
          have FIN : Hid (rightL s.data.toList = true ∧ wr = w) := ⟨by rw [FA.out.1, decide_eq_true c1, decide_eq_true c2]; rfl, FA.out.2⟩
          clear FA c1 c2
          go_wp2_with fail
          go_ret
          rw [FIN.out.1]
          exact ⟨rfl, FIN.out.2⟩
        · have t2 : decide ((s.size : Int) ≤ 64) = false := decide_eq_false (by omega)
          have FIN : Hid (rightL s.data.toList = false ∧ wr = w) := ⟨by rw [FA.out.1, decide_eq_true c1, decide_eq_false c2]; rfl, FA.out.2⟩
          clear FA c1 c2
          go_wp2_with fail
          go_ret
          rw [FIN.out.1]
          exact ⟨rfl, FIN.out.2⟩
      · have t1 : decide ((s.size : Int) ≥ 1) = false := decide_eq_false (by omega)
        have FIN : Hid (rightL s.data.toList = false ∧ wr = w) := ⟨by rw [FA.out.1, decide_eq_false c1]; rfl, FA.out.2⟩
        clear FA c1
        go_wp2_with fail
        go_ret
        rw [FIN.out.1]
        exact ⟨rfl, FIN.out.2⟩
set_option maxHeartbeats 4000000 in
theorem dkey_any (s : ByteArray) (hs : s.size ≤ 1000000000) (G : List UInt8) (hG : G.length = 16) (w : World) : Calls Try.prog 11 #[.string s, .agg (gv G)] w (KeyPost s G w) := by
  have RT := Lib.hid (fun W => dright_any s hs W)
  have hgs : (gv G).size = 16 := by simp [gv, hG]
  have HG := Lib.hid hG
  have HS := Lib.hid hs
  obtain ⟨cs, hcs⟩ : ∃ cs, gv G = cs := ⟨_, rfl⟩
  have HCS : Hid (cs.toList = G.map bv) := by unfold Hid; rw [← hcs]; simp [gv]
  rw [hcs] at hgs ⊢
  clear hcs hG hs
  cases hr : rightL s.data.toList with
  | false =>
    rw [hr] at RT
    have HR := Lib.hid hr
    clear hr
    go_enter Try.func11, Try.ntmps11
    go_wp2_with fail
    refine (RT.out _).mono ?_
    rintro e w2 ⟨rfl, hw2⟩
    subst w2
    go_wp2
    go_ret2
    refine ⟨none, 0, 0, 1, rfl, ?_, ?_, kp_alloc (Below.refl _ _) _⟩
    · rw [HR.out]; exact OwnB.nil _ _
    · rw [HR.out]; rfl
  | true =>
    rw [hr] at RT
    have HR := Lib.hid hr
    have h1 : Hid (1 ≤ s.size) := by
      unfold rightL at hr
      rw [data_size] at hr
      have := (Bool.and_eq_true _ _ ▸ hr).1
      exact (of_decide_eq_true this).1
    clear hr
    go_enter Try.func11, Try.ntmps11
    go_wp2_with fail
    refine (RT.out _).mono ?_
    rintro e w2 ⟨rfl, hw2⟩
    subst w2
    have R0 : RB (w.alloc (.cells cs 23)) (some ⟨w.heap.size, 0, none⟩) 16 G := rb_blockV (has_new _ _) HCS.out HG.out
    have U0 := own_nil0 (w.alloc (.cells cs 23))
    have hz : (w.alloc (.cells cs 23)).heap.size = w.heap.size + 1 := by simp
    rw [hz] at U0
    go_wp2_with (at_builtin; first | (refine wpList_apn _ _ rfl rfl rfl (w.heap.size + 1) (some ⟨w.heap.size + 1, 0, none⟩) 0 0 [] rfl U0 (some ⟨w.heap.size, 0, none⟩) 16 16 G rfl (R0.alloc _) (by omega) (by simp) ?_))
    intro A1 c1 w1 ho1 hg1
    have hb1 : Below w.heap.size w w1 := (kp_alloc (kp_alloc (Below.refl _ _) (.cells cs 23)) (.cells #[] 5)).grown hg1 (by simp; omega) (by intro k hk; cases hk; exact Nat.le_succ _)
    have hz1 := hg1.size
    have hz2 : w.heap.size + 1 ≤ w1.heap.size := by simp at hz1; omega
    clear hg1 R0 U0 hz
    have ho1 : OwnB w1 (w.heap.size + 1) A1 16 c1 G := by simpa using ho1
    go_wp2_with (at_builtin; refine wpList_aps _ _ rfl rfl rfl (w.heap.size + 1) A1 16 c1 G rfl ho1 s rfl (by have := HS.out; omega) hz2 ?_)
    intro A' c' w' ho hg
    have hb2 : Below w.heap.size w w' := hb1.grown hg (by omega) (fun g hg2 => by have := (ho1.blk_lt hg2).1; omega)
    have FIN : Hid (KeyPost s G w (.returned (.tuple #[.slice A' (16 + s.size) c', .int .i64 0])) w') := ⟨A', _, c', 0, rfl, by rw [HR.out]; exact ho.lower (by omega), by rw [HR.out]; rfl, hb2⟩
    clear ho hg hb1 hb2 ho1 hz1 hz2
    go_wp2
    go_ret2
    exact FIN.out
set_option maxHeartbeats 16000000 in
theorem dfits_any (k a : Nat) (hk : k < 256) (ha : a < 4294967296) (w : World) : Calls Try.prog 22 #[.int .u8 (k : Int), .int .u32 (a : Int)] w fun e w' => e = .returned (.int .i64 (if fitsB k a = true then 0 else 1)) ∧ w' = w := by
  have b1 : (bits BinOp.andNot IntKind.u32 (a : Int) 103 != 0) = c1 a := by
    have h : bits BinOp.andNot IntKind.u32 (a : Int) 103 = ((a &&& 4294967192 : Nat) : Int) := u32_andNot_nat a 103 ha (by decide)
    rw [h]; exact ne_cast _ 0
  have b2 : (bits BinOp.and IntKind.u32 (a : Int) 3 != 3) = c2 a := by
    have h : bits BinOp.and IntKind.u32 (a : Int) 3 = ((a &&& 3 : Nat) : Int) := u32_and_nat a 3 ha (by decide)
    rw [h]; exact ne_cast _ 3
  have b3 : (bits BinOp.and IntKind.u32 (a : Int) 36 != 36) = c3 a := by
    have h : bits BinOp.and IntKind.u32 (a : Int) 36 = ((a &&& 36 : Nat) : Int) := u32_and_nat a 36 ha (by decide)
    rw [h]; exact ne_cast _ 36
  have b4 : (bits BinOp.and IntKind.u32 (a : Int) 64 != 0) = c4 a := by
    have h : bits BinOp.and IntKind.u32 (a : Int) 64 = ((a &&& 64 : Nat) : Int) := u32_and_nat a 64 ha (by decide)
    rw [h]; exact ne_cast _ 0
  obtain ⟨rr, hrr⟩ : ∃ rr : Int, (if fitsB k a = true then (0 : Int) else 1) = rr := ⟨_, rfl⟩
  rw [hrr]
  have HRR := Lib.hid hrr
  clear hrr
  by_cases hk4 : 4 < k
  · have t0 : decide ((k : Int) > 4) = true := decide_eq_true (by omega)
    have FIN : Hid (fitsB k a = false) := fits_big k a hk4
    have n1 : ((k : Int) == 1) = false := beq_eq_false_iff_ne.2 (by omega)
    have n2 : ((k : Int) == 2) = false := beq_eq_false_iff_ne.2 (by omega)
    have n3 : ((k : Int) == 3) = false := beq_eq_false_iff_ne.2 (by omega)
    clear b1 b2 b3 b4 hk4
    go_enter Try.func22, Try.ntmps22
    go_wp2
    go_ret
    exact ⟨by rw [← HRR.out, FIN.out]; rfl, rfl⟩
  have t0 : decide ((k : Int) > 4) = false := decide_eq_false (by omega)
  obtain ⟨d1, hd1⟩ : ∃ d, c1 a = d := ⟨_, rfl⟩
  obtain ⟨d2, hd2⟩ : ∃ d, c2 a = d := ⟨_, rfl⟩
  obtain ⟨d3, hd3⟩ : ∃ d, c3 a = d := ⟨_, rfl⟩
  obtain ⟨d4, hd4⟩ : ∃ d, c4 a = d := ⟨_, rfl⟩
  have FB : Hid (fitsB k a = !(d1 || d2 || ((k == 1 || k == 2 || k == 3) && d3) || (k == 1 && d4))) := by
    unfold Hid fitsB; rw [decide_eq_false hk4, hd1, hd2, hd3, hd4]; rfl
  rw [hd1] at b1
  rw [hd2] at b2
  rw [hd3] at b3
  rw [hd4] at b4
  clear hd1 hd2 hd3 hd4
  rcases (show k = 0 ∨ k = 1 ∨ k = 2 ∨ k = 3 ∨ k = 4 by omega) with rfl | rfl | rfl | rfl | rfl
  · cases d1 <;> cases d2
    all_goals
      have FIN := FB
      simp only [Bool.true_or, Bool.false_or, Bool.or_true, Bool.or_false, Bool.and_true, Bool.and_false, Bool.not_true, Bool.not_false, Nat.reduceBEq, Bool.false_and, Bool.true_and] at FIN
      clear FB hk4 t0
      go_enter Try.func22, Try.ntmps22
      go_wp2
      go_ret
      exact ⟨by rw [← HRR.out, FIN.out]; rfl, rfl⟩
  · cases d1 <;> cases d2 <;> cases d3 <;> cases d4
    all_goals
      have FIN := FB
      simp only [Bool.true_or, Bool.false_or, Bool.or_true, Bool.or_false, Bool.and_true, Bool.and_false, Bool.not_true, Bool.not_false, Nat.reduceBEq, Bool.false_and, Bool.true_and] at FIN
      clear FB hk4 t0
      go_enter Try.func22, Try.ntmps22
      go_wp2
      go_ret
      exact ⟨by rw [← HRR.out, FIN.out]; rfl, rfl⟩
  · cases d1 <;> cases d2 <;> cases d3
    all_goals
      have FIN := FB
      simp only [Bool.true_or, Bool.false_or, Bool.or_true, Bool.or_false, Bool.and_true, Bool.and_false, Bool.not_true, Bool.not_false, Nat.reduceBEq, Bool.false_and, Bool.true_and] at FIN
      clear FB hk4 t0
      go_enter Try.func22, Try.ntmps22
      go_wp2
      go_ret
      exact ⟨by rw [← HRR.out, FIN.out]; rfl, rfl⟩
  · cases d1 <;> cases d2 <;> cases d3
    all_goals
      have FIN := FB
      simp only [Bool.true_or, Bool.false_or, Bool.or_true, Bool.or_false, Bool.and_true, Bool.and_false, Bool.not_true, Bool.not_false, Nat.reduceBEq, Bool.false_and, Bool.true_and] at FIN
      clear FB hk4 t0
      go_enter Try.func22, Try.ntmps22
      go_wp2
      go_ret
      exact ⟨by rw [← HRR.out, FIN.out]; rfl, rfl⟩
  · cases d1 <;> cases d2
    all_goals
      have FIN := FB
      simp only [Bool.true_or, Bool.false_or, Bool.or_true, Bool.or_false, Bool.and_true, Bool.and_false, Bool.not_true, Bool.not_false, Nat.reduceBEq, Bool.false_and, Bool.true_and] at FIN
      clear FB hk4 t0
      go_enter Try.func22, Try.ntmps22
      go_wp2
      go_ret
      exact ⟨by rw [← HRR.out, FIN.out]; rfl, rfl⟩
end Go.Proofs.Ytjcbmgpmlekamaa
