/-
  stamp: the document's answer of Read.
-/
import Derived.Test.YtfampefflkkckaaDoorStS
import Derived.Test.YtfampefflkkckaaDoorUp
namespace Go.Proofs.YtfampefflkkckaaDoor
open Go.RowKit Go
set_option linter.unusedVariables false
set_option maxRecDepth 100000
theorem rread_len (A : Option Addr) (n c : Nat) (bs : List UInt8) (w : World) (hR : RB w A n bs) (hn : n ≠ 16) :
    Calls Tryd.prog 42 #[.slice A n c] w fun e w' => e = .returned (readV none) ∧ Below w.heap.size w w' := by
  have hb0 : ∀ cs, Below w.heap.size w (w.alloc (.cells cs 71)) := fun cs => (Below.refl _ _).alloc (Nat.le_refl _) _
  have d1 : ((n : Int) == 16) = false := beq_eq_false_iff_ne.2 (by omega)
  have d2 : ((n : Int) != 16) = true := by rw [bne_iff_ne]; omega
  have G0 : Hid ((w.alloc (.cells Tm.zero.cells 71)).heap[w.heap.size]? = some (.cells Tm.zero.cells 71)) := heap_alloc_new w _
  clear hn hR
  go_enter Tryd.func42, Tryd.ntmps42
  go_wp2
  exact bodyPost_ret (results_tm rfl _ _ w.heap.size Tm.zero rfl G0.out) rfl ⟨rfl, hb0 _⟩
theorem rread_tail (A : Option Addr) (c : Nat) (bs : List UInt8) (w : World) (hR : RB w A 16 bs) (k0 : Nat) (q0 : UInt8) (hk0 : k0 < 9) (hq0 : bs[7 + k0]? = some q0) (hne : q0 ≠ 0) (hz : ∀ j, j < k0 → bs[7 + j]? = some 0) :
    Calls Tryd.prog 42 #[.slice A 16 c] w fun e w' => e = .returned (readV none) ∧ Below w.heap.size w w' := by
  have hb0 : ∀ cs, Below w.heap.size w (w.alloc (.cells cs 71)) := fun cs => (Below.refl _ _).alloc (Nat.le_refl _) _
  have HZ := Lib.hid hz
  have HQ := Lib.hid hq0
  have hqb := q0.toNat_lt
  have G0 : Hid ((w.alloc (.cells Tm.zero.cells 71)).heap[w.heap.size]? = some (.cells Tm.zero.cells 71)) := heap_alloc_new w _
  have hq1 : q0.toNat ≠ 0 := fun e => hne (UInt8.toNat_inj.1 (by rw [e]; rfl))
  obtain ⟨b, off, qq, rfl, hb, e0, c0⟩ := hR.at_ (k := 0) (by omega)
  have hat : ∀ k, k < 16 → ∃ q, bs[k]? = some q ∧ w.cell? ⟨b, off + k, none⟩ = some (.int .u8 (q.toNat : Int)) := fun k hk => by
    obtain ⟨b', off', q, e, _, h1, h2⟩ := hR.at_ hk
    injection e with e
    injection e with e1 e2
    subst e1; subst e2
    exact ⟨q, h1, h2⟩
  have HAT := Lib.hid hat
  clear hat e0 c0
  have d1 : ((q0.toNat : Int) == 0) = false := beq_eq_false_iff_ne.2 (by omega)
  have d2 : ((q0.toNat : Int) != 0) = true := by rw [bne_iff_ne]; omega
  clear hz hq0 hR hne hq1
  go_enter Tryd.func42, Tryd.ntmps42
  go_wp2
  go_loop [4] (fun i => ∃ k : Nat, 7 ≤ k ∧ k ≤ 7 + k0 ∧ i = .int .i64 k) (fun i => 16 - (intOf i).toNat)
  case atStart => exact ⟨7, by omega, by omega, rfl⟩
  case round =>
    obtain ⟨k, hk7, hk, rfl⟩ := hrel
    have k16 : k < 16 := by omega
    have i0 : (0 : Int) ≤ (k : Int) := by omega
    have i1 : (k : Int) < 16 := by omega
    by_cases hlt : k < 7 + k0
    · obtain ⟨q, hq, hcell⟩ := HAT.out k k16
      have h9 := HZ.out (k - 7) (by omega)
      rw [show 7 + (k - 7) = k by omega, hq] at h9
      injection h9 with h9
      subst h9
      go_wp2
      go_round
      case rel => exact ⟨k + 1, by omega, by omega, by go_num⟩
      case measure => simp [intOf]; omega
    · obtain rfl : k = 7 + k0 := by omega
      obtain ⟨q, hq, hcell⟩ := HAT.out (7 + k0) k16
      rw [HQ.out] at hq
      injection hq with hq
      subst hq
      obtain ⟨m, hm⟩ : ∃ m, m = 7 + k0 := ⟨_, rfl⟩
      rw [← hm] at hcell k16 hk7 hk hlt i0 i1 ⊢
      clear hm
      go_wp2
      exact bodyPost_ret (results_tm rfl _ _ w.heap.size Tm.zero rfl G0.out) rfl ⟨rfl, hb0 _⟩
set_option maxHeartbeats 1600000 in
theorem rread_zero (A : Option Addr) (c : Nat) (bs : List UInt8) (w : World) (hR : RB w A 16 bs) (hz : ∀ j, j < 9 → bs[7 + j]? = some 0)
    (q2 q3 q4 q5 q6 : UInt8) (e2 : bs[2]? = some q2) (e3 : bs[3]? = some q3) (e4 : bs[4]? = some q4) (e5 : bs[5]? = some q5) (e6 : bs[6]? = some q6) (hzero : (⟨leN (cut bs 0 2), q2, q3, q4, q5, q6⟩ : Tm) = Tm.zero) :
    Calls Tryd.prog 42 #[.slice A 16 c] w fun e w' => e = .returned (.tuple #[tmV ⟨leN (cut bs 0 2), q2, q3, q4, q5, q6⟩, .int .i64 0]) ∧ Below w.heap.size w w' := by
  have HZ := Lib.hid hz
  have hb0 : ∀ cs, Below w.heap.size w (w.alloc (.cells cs 71)) := fun cs => (Below.refl _ _).alloc (Nat.le_refl _) _
  obtain ⟨b, off, qq, rfl, hb, e0, c0⟩ := hR.at_ (k := 0) (by omega)
  have hat : ∀ k, k < 16 → ∃ q, bs[k]? = some q ∧ w.cell? ⟨b, off + k, none⟩ = some (.int .u8 (q.toNat : Int)) := fun k hk => by
    obtain ⟨b', off', q, e, _, h1, h2⟩ := hR.at_ hk
    injection e with e
    injection e with e1 e2
    subst e1; subst e2
    exact ⟨q, h1, h2⟩
  have HAT := Lib.hid hat
  clear hat e0 c0
  have k2 : w.cell? ⟨b, off + 2, none⟩ = some (.int .u8 (q2.toNat : Int)) := by
    obtain ⟨q, hq, hk⟩ := HAT.out 2 (by omega)
    rw [e2] at hq
    injection hq with hq
    subst hq
    exact hk
  have k3 : w.cell? ⟨b, off + 3, none⟩ = some (.int .u8 (q3.toNat : Int)) := by
    obtain ⟨q, hq, hk⟩ := HAT.out 3 (by omega)
    rw [e3] at hq
    injection hq with hq
    subst hq
    exact hk
  have k4 : w.cell? ⟨b, off + 4, none⟩ = some (.int .u8 (q4.toNat : Int)) := by
    obtain ⟨q, hq, hk⟩ := HAT.out 4 (by omega)
    rw [e4] at hq
    injection hq with hq
    subst hq
    exact hk
  have k5 : w.cell? ⟨b, off + 5, none⟩ = some (.int .u8 (q5.toNat : Int)) := by
    obtain ⟨q, hq, hk⟩ := HAT.out 5 (by omega)
    rw [e5] at hq
    injection hq with hq
    subst hq
    exact hk
  have k6 : w.cell? ⟨b, off + 6, none⟩ = some (.int .u8 (q6.toNat : Int)) := by
    obtain ⟨q, hq, hk⟩ := HAT.out 6 (by omega)
    rw [e6] at hq
    injection hq with hq
    subst hq
    exact hk
  obtain ⟨p0, h0, k0⟩ := HAT.out 0 (by omega)
  obtain ⟨p1, h1, k1⟩ := HAT.out 1 (by omega)
  rw [Nat.add_zero] at k0
  have hyl : leN (cut bs 0 2) = p0.toNat + 256 * p1.toNat := by
    have hl := hR.1
    match bs, hl, h0, h1 with
    | a :: b' :: r, _, h0, h1 =>
      simp at h0 h1
      subst h0 h1
      show leN [a, b'] = _
      exact leN_two a b'
  have b0 := p0.toNat_lt
  have b1 := p1.toNat_lt
  generalize leN (cut bs 0 2) = y at *
  have hy6 : y < 65536 := by omega
  have s1 : IntKind.u16.wrap (256 * (p1.toNat : Int)) = 256 * (p1.toNat : Int) := IntWalk.u16_in _ (by omega)
  have s2 : IntKind.u16.wrap ((p0.toNat : Int) + 256 * (p1.toNat : Int)) = (y : Int) := (IntWalk.u16_in _ (by omega)).trans (by omega)
  have S1 := Lib.hid s1
  have S2 := Lib.hid s2
  have S3 : Hid (IntKind.u16.wrap (p0.toNat : Int) = (p0.toNat : Int)) := IntWalk.u16_in _ (by omega)
  have S4 : Hid (IntKind.u16.wrap (p1.toNat : Int) = (p1.toNat : Int)) := IntWalk.u16_in _ (by omega)
  have CMP : Hid (∀ W, (Op.equalIn 10000 71 (.agg #[.int .u16 (y : Int), .int .u8 (q2.toNat : Int), .int .u8 (q3.toNat : Int), .int .u8 (q4.toNat : Int), .int .u8 (q5.toNat : Int), .int .u8 (q6.toNat : Int)]) (.agg #[.int .u16 0, .int .u8 0, .int .u8 0, .int .u8 0, .int .u8 0, .int .u8 0])).run Tryd.prog W = .ok true W) := fun W => by
    have := tm_same ⟨y, q2, q3, q4, q5, q6⟩ Tm.zero W 9998
    rw [decide_eq_true hzero] at this
    exact this
  have HYL := Lib.hid hyl
  clear hz e2 e3 e4 e5 e6 h0 h1 hyl s1 s2 hzero hR
  go_enter Tryd.func42, Tryd.ntmps42
  go_wp2
  go_loop [4] (fun i => ∃ k : Nat, 7 ≤ k ∧ k ≤ 16 ∧ i = .int .i64 k) (fun i => 16 - (intOf i).toNat)
  case atStart => exact ⟨7, by omega, by omega, rfl⟩
  case round =>
    obtain ⟨k, hk7, hk, rfl⟩ := hrel
    by_cases hlt : k < 16
    · obtain ⟨q, hq, hcell⟩ := HAT.out k hlt
      have h9 := HZ.out (k - 7) (by omega)
      rw [show 7 + (k - 7) = k by omega, hq] at h9
      injection h9 with h9
      subst h9
      have i0 : (0 : Int) ≤ (k : Int) := by omega
      have i1 : (k : Int) < 16 := by omega
      go_wp2
      go_round
      case rel => exact ⟨k + 1, by omega, by omega, by go_num⟩
      case measure => simp [intOf]; omega
    · obtain rfl : k = 16 := by omega
      have s1 := S1.out
      have s2 := S2.out
      have s3 := S3.out
      have s4 := S4.out
      go_wp2
      go_region_held3 (fun w' => w'.cell? ⟨b, off, none⟩ = some (.int .u8 (p0.toNat : Int)) ∧ w'.cell? ⟨b, off + 1, none⟩ = some (.int .u8 (p1.toNat : Int)) ∧ w'.cell? ⟨b, off + 2, none⟩ = some (.int .u8 (q2.toNat : Int)) ∧ w'.cell? ⟨b, off + 3, none⟩ = some (.int .u8 (q3.toNat : Int)) ∧ w'.cell? ⟨b, off + 4, none⟩ = some (.int .u8 (q4.toNat : Int)) ∧ w'.cell? ⟨b, off + 5, none⟩ = some (.int .u8 (q5.toNat : Int)) ∧ w'.cell? ⟨b, off + 6, none⟩ = some (.int .u8 (q6.toNat : Int))) (go_keep) (fail)
      clear s1 s2 s3 s4
      have cmp := CMP.out
      go_wp2
      exact bodyPost_ret (results_tm rfl _ _ w.heap.size ⟨y, q2, q3, q4, q5, q6⟩ rfl (heap_alloc2_old w _ _)) rfl ⟨rfl, ((hb0 _).alloc (by simp) _).drew⟩
set_option maxHeartbeats 1600000 in
theorem rread_right (A : Option Addr) (c : Nat) (bs : List UInt8) (w : World) (hR : RB w A 16 bs) (hz : ∀ j, j < 9 → bs[7 + j]? = some 0)
    (q2 q3 q4 q5 q6 : UInt8) (e2 : bs[2]? = some q2) (e3 : bs[3]? = some q3) (e4 : bs[4]? = some q4) (e5 : bs[5]? = some q5) (e6 : bs[6]? = some q6) (hzero : (⟨leN (cut bs 0 2), q2, q3, q4, q5, q6⟩ : Tm) ≠ Tm.zero) (hright : rightB ⟨leN (cut bs 0 2), q2, q3, q4, q5, q6⟩ = true) :
    Calls Tryd.prog 42 #[.slice A 16 c] w fun e w' => e = .returned (.tuple #[tmV ⟨leN (cut bs 0 2), q2, q3, q4, q5, q6⟩, .int .i64 0]) ∧ Below w.heap.size w w' := by
  have HZ := Lib.hid hz
  have hb0 : ∀ cs, Below w.heap.size w (w.alloc (.cells cs 71)) := fun cs => (Below.refl _ _).alloc (Nat.le_refl _) _
  obtain ⟨b, off, qq, rfl, hb, e0, c0⟩ := hR.at_ (k := 0) (by omega)
  have hat : ∀ k, k < 16 → ∃ q, bs[k]? = some q ∧ w.cell? ⟨b, off + k, none⟩ = some (.int .u8 (q.toNat : Int)) := fun k hk => by
    obtain ⟨b', off', q, e, _, h1, h2⟩ := hR.at_ hk
    injection e with e
    injection e with e1 e2
    subst e1; subst e2
    exact ⟨q, h1, h2⟩
  have HAT := Lib.hid hat
  clear hat e0 c0
  have k2 : w.cell? ⟨b, off + 2, none⟩ = some (.int .u8 (q2.toNat : Int)) := by
    obtain ⟨q, hq, hk⟩ := HAT.out 2 (by omega)
    rw [e2] at hq
    injection hq with hq
    subst hq
    exact hk
  have k3 : w.cell? ⟨b, off + 3, none⟩ = some (.int .u8 (q3.toNat : Int)) := by
    obtain ⟨q, hq, hk⟩ := HAT.out 3 (by omega)
    rw [e3] at hq
    injection hq with hq
    subst hq
    exact hk
  have k4 : w.cell? ⟨b, off + 4, none⟩ = some (.int .u8 (q4.toNat : Int)) := by
    obtain ⟨q, hq, hk⟩ := HAT.out 4 (by omega)
    rw [e4] at hq
    injection hq with hq
    subst hq
    exact hk
  have k5 : w.cell? ⟨b, off + 5, none⟩ = some (.int .u8 (q5.toNat : Int)) := by
    obtain ⟨q, hq, hk⟩ := HAT.out 5 (by omega)
    rw [e5] at hq
    injection hq with hq
    subst hq
    exact hk
  have k6 : w.cell? ⟨b, off + 6, none⟩ = some (.int .u8 (q6.toNat : Int)) := by
    obtain ⟨q, hq, hk⟩ := HAT.out 6 (by omega)
    rw [e6] at hq
    injection hq with hq
    subst hq
    exact hk
  obtain ⟨p0, h0, k0⟩ := HAT.out 0 (by omega)
  obtain ⟨p1, h1, k1⟩ := HAT.out 1 (by omega)
  rw [Nat.add_zero] at k0
  have hyl : leN (cut bs 0 2) = p0.toNat + 256 * p1.toNat := by
    have hl := hR.1
    match bs, hl, h0, h1 with
    | a :: b' :: r, _, h0, h1 =>
      simp at h0 h1
      subst h0 h1
      show leN [a, b'] = _
      exact leN_two a b'
  have b0 := p0.toNat_lt
  have b1 := p1.toNat_lt
  generalize leN (cut bs 0 2) = y at *
  have hy6 : y < 65536 := by omega
  have s1 : IntKind.u16.wrap (256 * (p1.toNat : Int)) = 256 * (p1.toNat : Int) := IntWalk.u16_in _ (by omega)
  have s2 : IntKind.u16.wrap ((p0.toNat : Int) + 256 * (p1.toNat : Int)) = (y : Int) := (IntWalk.u16_in _ (by omega)).trans (by omega)
  have S1 := Lib.hid s1
  have S2 := Lib.hid s2
  have S3 : Hid (IntKind.u16.wrap (p0.toNat : Int) = (p0.toNat : Int)) := IntWalk.u16_in _ (by omega)
  have S4 : Hid (IntKind.u16.wrap (p1.toNat : Int) = (p1.toNat : Int)) := IntWalk.u16_in _ (by omega)
  have CMP : Hid (∀ W, (Op.equalIn 10000 71 (.agg #[.int .u16 (y : Int), .int .u8 (q2.toNat : Int), .int .u8 (q3.toNat : Int), .int .u8 (q4.toNat : Int), .int .u8 (q5.toNat : Int), .int .u8 (q6.toNat : Int)]) (.agg #[.int .u16 0, .int .u8 0, .int .u8 0, .int .u8 0, .int .u8 0, .int .u8 0])).run Tryd.prog W = .ok false W) := fun W => by
    have := tm_same ⟨y, q2, q3, q4, q5, q6⟩ Tm.zero W 9998
    rw [decide_eq_false hzero] at this
    exact this
  have RT2 : Hid (∀ W, Calls Tryd.prog 50 #[.agg #[.int .u16 (y : Int), .int .u8 (q2.toNat : Int), .int .u8 (q3.toNat : Int), .int .u8 (q4.toNat : Int), .int .u8 (q5.toNat : Int), .int .u8 (q6.toNat : Int)]] W fun e w' => e = .returned (.bool true) ∧ Below W.heap.size W w') := fun W => by
    have := refRight_any ⟨y, q2, q3, q4, q5, q6⟩ W hy6
    rwa [hright] at this
  clear hright
  have HYL := Lib.hid hyl
  clear hz e2 e3 e4 e5 e6 h0 h1 hyl s1 s2 hzero hR
  go_enter Tryd.func42, Tryd.ntmps42
  go_wp2
  go_loop [4] (fun i => ∃ k : Nat, 7 ≤ k ∧ k ≤ 16 ∧ i = .int .i64 k) (fun i => 16 - (intOf i).toNat)
  case atStart => exact ⟨7, by omega, by omega, rfl⟩
  case round =>
    obtain ⟨k, hk7, hk, rfl⟩ := hrel
    by_cases hlt : k < 16
    · obtain ⟨q, hq, hcell⟩ := HAT.out k hlt
      have h9 := HZ.out (k - 7) (by omega)
      rw [show 7 + (k - 7) = k by omega, hq] at h9
      injection h9 with h9
      subst h9
      have i0 : (0 : Int) ≤ (k : Int) := by omega
      have i1 : (k : Int) < 16 := by omega
      go_wp2
      go_round
      case rel => exact ⟨k + 1, by omega, by omega, by go_num⟩
      case measure => simp [intOf]; omega
    · obtain rfl : k = 16 := by omega
      have s1 := S1.out
      have s2 := S2.out
      have s3 := S3.out
      have s4 := S4.out
      go_wp2
      go_region_held3 (fun w' => w'.cell? ⟨b, off, none⟩ = some (.int .u8 (p0.toNat : Int)) ∧ w'.cell? ⟨b, off + 1, none⟩ = some (.int .u8 (p1.toNat : Int)) ∧ w'.cell? ⟨b, off + 2, none⟩ = some (.int .u8 (q2.toNat : Int)) ∧ w'.cell? ⟨b, off + 3, none⟩ = some (.int .u8 (q3.toNat : Int)) ∧ w'.cell? ⟨b, off + 4, none⟩ = some (.int .u8 (q4.toNat : Int)) ∧ w'.cell? ⟨b, off + 5, none⟩ = some (.int .u8 (q5.toNat : Int)) ∧ w'.cell? ⟨b, off + 6, none⟩ = some (.int .u8 (q6.toNat : Int))) (go_keep) (fail)
      clear s1 s2 s3 s4
      have cmp := CMP.out
      go_wp2_with fail
      refine (RT2.out _).mono ?_
      intro e W4 hw4
      obtain ⟨rfl, hb4⟩ := hw4
      have g0 := (hb4.block w.heap.size (by simp; omega)).trans (heap_alloc2_old w _ _)
      have g1 := (hb4.block (w.heap.size + 1) (by simp)).trans (heap_alloc2_new w _ _)
      have hbl4 : Below w.heap.size w W4 := (((hb0 _).alloc (by simp) _).drew).trans (hb4.mono (by simp; omega))
      clear hb4
      obtain ⟨z0, z1, z2, z3, z4, z5⟩ := cells6 g0
      obtain ⟨f0, f1, f2, f3, f4, f5⟩ := free6 g0
      obtain ⟨l0, l1, l2, l3, l4, l5⟩ := cells6 g1
      have G0 := Lib.hid g0
      clear g0 g1
      have HS : Hid (∀ (W : World) (j : Nat) (u : Value), Below w.heap.size w W → Below w.heap.size w (W.setCell ⟨w.heap.size, j, none⟩ u)) := fun W j u hW => hW.setCell (Nat.le_refl _) u
      go_wp2
      all_goals refine bodyPost_ret (results_tm rfl _ _ w.heap.size ⟨y, q2, q3, q4, q5, q6⟩ rfl (heap_set_tm _ _ ⟨y, q2, q3, q4, q5, q6⟩ Tm.zero G0.out)) rfl ?_
      all_goals exact ⟨rfl, HS.out _ _ _ (HS.out _ _ _ (HS.out _ _ _ (HS.out _ _ _ (HS.out _ _ _ (HS.out _ _ _ hbl4)))))⟩
set_option maxHeartbeats 1600000 in
theorem rread_wrong (A : Option Addr) (c : Nat) (bs : List UInt8) (w : World) (hR : RB w A 16 bs) (hz : ∀ j, j < 9 → bs[7 + j]? = some 0)
    (q2 q3 q4 q5 q6 : UInt8) (e2 : bs[2]? = some q2) (e3 : bs[3]? = some q3) (e4 : bs[4]? = some q4) (e5 : bs[5]? = some q5) (e6 : bs[6]? = some q6) (hzero : (⟨leN (cut bs 0 2), q2, q3, q4, q5, q6⟩ : Tm) ≠ Tm.zero) (hright : rightB ⟨leN (cut bs 0 2), q2, q3, q4, q5, q6⟩ = false) :
    Calls Tryd.prog 42 #[.slice A 16 c] w fun e w' => e = .returned (.tuple #[tmV Tm.zero, .int .i64 9]) ∧ Below w.heap.size w w' := by
  have HZ := Lib.hid hz
  have hb0 : ∀ cs, Below w.heap.size w (w.alloc (.cells cs 71)) := fun cs => (Below.refl _ _).alloc (Nat.le_refl _) _
  obtain ⟨b, off, qq, rfl, hb, e0, c0⟩ := hR.at_ (k := 0) (by omega)
  have hat : ∀ k, k < 16 → ∃ q, bs[k]? = some q ∧ w.cell? ⟨b, off + k, none⟩ = some (.int .u8 (q.toNat : Int)) := fun k hk => by
    obtain ⟨b', off', q, e, _, h1, h2⟩ := hR.at_ hk
    injection e with e
    injection e with e1 e2
    subst e1; subst e2
    exact ⟨q, h1, h2⟩
  have HAT := Lib.hid hat
  clear hat e0 c0
  have k2 : w.cell? ⟨b, off + 2, none⟩ = some (.int .u8 (q2.toNat : Int)) := by
    obtain ⟨q, hq, hk⟩ := HAT.out 2 (by omega)
    rw [e2] at hq
    injection hq with hq
    subst hq
    exact hk
  have k3 : w.cell? ⟨b, off + 3, none⟩ = some (.int .u8 (q3.toNat : Int)) := by
    obtain ⟨q, hq, hk⟩ := HAT.out 3 (by omega)
    rw [e3] at hq
    injection hq with hq
    subst hq
    exact hk
  have k4 : w.cell? ⟨b, off + 4, none⟩ = some (.int .u8 (q4.toNat : Int)) := by
    obtain ⟨q, hq, hk⟩ := HAT.out 4 (by omega)
    rw [e4] at hq
    injection hq with hq
    subst hq
    exact hk
  have k5 : w.cell? ⟨b, off + 5, none⟩ = some (.int .u8 (q5.toNat : Int)) := by
    obtain ⟨q, hq, hk⟩ := HAT.out 5 (by omega)
    rw [e5] at hq
    injection hq with hq
    subst hq
    exact hk
  have k6 : w.cell? ⟨b, off + 6, none⟩ = some (.int .u8 (q6.toNat : Int)) := by
    obtain ⟨q, hq, hk⟩ := HAT.out 6 (by omega)
    rw [e6] at hq
    injection hq with hq
    subst hq
    exact hk
  obtain ⟨p0, h0, k0⟩ := HAT.out 0 (by omega)
  obtain ⟨p1, h1, k1⟩ := HAT.out 1 (by omega)
  rw [Nat.add_zero] at k0
  have hyl : leN (cut bs 0 2) = p0.toNat + 256 * p1.toNat := by
    have hl := hR.1
    match bs, hl, h0, h1 with
    | a :: b' :: r, _, h0, h1 =>
      simp at h0 h1
      subst h0 h1
      show leN [a, b'] = _
      exact leN_two a b'
  have b0 := p0.toNat_lt
  have b1 := p1.toNat_lt
  generalize leN (cut bs 0 2) = y at *
  have hy6 : y < 65536 := by omega
  have s1 : IntKind.u16.wrap (256 * (p1.toNat : Int)) = 256 * (p1.toNat : Int) := IntWalk.u16_in _ (by omega)
  have s2 : IntKind.u16.wrap ((p0.toNat : Int) + 256 * (p1.toNat : Int)) = (y : Int) := (IntWalk.u16_in _ (by omega)).trans (by omega)
  have S1 := Lib.hid s1
  have S2 := Lib.hid s2
  have S3 : Hid (IntKind.u16.wrap (p0.toNat : Int) = (p0.toNat : Int)) := IntWalk.u16_in _ (by omega)
  have S4 : Hid (IntKind.u16.wrap (p1.toNat : Int) = (p1.toNat : Int)) := IntWalk.u16_in _ (by omega)
  have CMP : Hid (∀ W, (Op.equalIn 10000 71 (.agg #[.int .u16 (y : Int), .int .u8 (q2.toNat : Int), .int .u8 (q3.toNat : Int), .int .u8 (q4.toNat : Int), .int .u8 (q5.toNat : Int), .int .u8 (q6.toNat : Int)]) (.agg #[.int .u16 0, .int .u8 0, .int .u8 0, .int .u8 0, .int .u8 0, .int .u8 0])).run Tryd.prog W = .ok false W) := fun W => by
    have := tm_same ⟨y, q2, q3, q4, q5, q6⟩ Tm.zero W 9998
    rw [decide_eq_false hzero] at this
    exact this
  have RT2 : Hid (∀ W, Calls Tryd.prog 50 #[.agg #[.int .u16 (y : Int), .int .u8 (q2.toNat : Int), .int .u8 (q3.toNat : Int), .int .u8 (q4.toNat : Int), .int .u8 (q5.toNat : Int), .int .u8 (q6.toNat : Int)]] W fun e w' => e = .returned (.bool false) ∧ Below W.heap.size W w') := fun W => by
    have := refRight_any ⟨y, q2, q3, q4, q5, q6⟩ W hy6
    rwa [hright] at this
  clear hright
  have HYL := Lib.hid hyl
  clear hz e2 e3 e4 e5 e6 h0 h1 hyl s1 s2 hzero hR
  go_enter Tryd.func42, Tryd.ntmps42
  go_wp2
  go_loop [4] (fun i => ∃ k : Nat, 7 ≤ k ∧ k ≤ 16 ∧ i = .int .i64 k) (fun i => 16 - (intOf i).toNat)
  case atStart => exact ⟨7, by omega, by omega, rfl⟩
  case round =>
    obtain ⟨k, hk7, hk, rfl⟩ := hrel
    by_cases hlt : k < 16
    · obtain ⟨q, hq, hcell⟩ := HAT.out k hlt
      have h9 := HZ.out (k - 7) (by omega)
      rw [show 7 + (k - 7) = k by omega, hq] at h9
      injection h9 with h9
      subst h9
      have i0 : (0 : Int) ≤ (k : Int) := by omega
      have i1 : (k : Int) < 16 := by omega
      go_wp2
      go_round
      case rel => exact ⟨k + 1, by omega, by omega, by go_num⟩
      case measure => simp [intOf]; omega
    · obtain rfl : k = 16 := by omega
      have s1 := S1.out
      have s2 := S2.out
      have s3 := S3.out
      have s4 := S4.out
      go_wp2
      go_region_held3 (fun w' => w'.cell? ⟨b, off, none⟩ = some (.int .u8 (p0.toNat : Int)) ∧ w'.cell? ⟨b, off + 1, none⟩ = some (.int .u8 (p1.toNat : Int)) ∧ w'.cell? ⟨b, off + 2, none⟩ = some (.int .u8 (q2.toNat : Int)) ∧ w'.cell? ⟨b, off + 3, none⟩ = some (.int .u8 (q3.toNat : Int)) ∧ w'.cell? ⟨b, off + 4, none⟩ = some (.int .u8 (q4.toNat : Int)) ∧ w'.cell? ⟨b, off + 5, none⟩ = some (.int .u8 (q5.toNat : Int)) ∧ w'.cell? ⟨b, off + 6, none⟩ = some (.int .u8 (q6.toNat : Int))) (go_keep) (fail)
      clear s1 s2 s3 s4
      have cmp := CMP.out
      go_wp2_with fail
      refine (RT2.out _).mono ?_
      intro e W4 hw4
      obtain ⟨rfl, hb4⟩ := hw4
      have g0 := (hb4.block w.heap.size (by simp; omega)).trans (heap_alloc2_old w _ _)
      have g1 := (hb4.block (w.heap.size + 1) (by simp)).trans (heap_alloc2_new w _ _)
      have hbl4 : Below w.heap.size w W4 := (((hb0 _).alloc (by simp) _).drew).trans (hb4.mono (by simp; omega))
      clear hb4
      obtain ⟨z0, z1, z2, z3, z4, z5⟩ := cells6 g0
      obtain ⟨f0, f1, f2, f3, f4, f5⟩ := free6 g0
      obtain ⟨l0, l1, l2, l3, l4, l5⟩ := cells6 g1
      have G0 := Lib.hid g0
      clear g0 g1
      have HS : Hid (∀ (W : World) (j : Nat) (u : Value), Below w.heap.size w W → Below w.heap.size w (W.setCell ⟨w.heap.size, j, none⟩ u)) := fun W j u hW => hW.setCell (Nat.le_refl _) u
      go_wp2
      all_goals refine bodyPost_ret (results_tm rfl _ _ w.heap.size Tm.zero rfl (heap_set_tm _ _ Tm.zero Tm.zero G0.out)) rfl ?_
      all_goals exact ⟨rfl, HS.out _ _ _ (HS.out _ _ _ (HS.out _ _ _ (HS.out _ _ _ (HS.out _ _ _ (HS.out _ _ _ hbl4)))))⟩
theorem rread_any (A : Option Addr) (n c : Nat) (bs : List UInt8) (w : World) (hR : RB w A n bs) :
    Calls Tryd.prog 42 #[.slice A n c] w fun e w' => e = .returned (readV (readO bs)) ∧ Below w.heap.size w w' := by
  by_cases hn : n = 16
  · subst hn
    have hl := hR.1
    cases ht : (bs.drop 7).all (· == 0) with
    | false =>
      have e : readO bs = none := if_neg (by rw [ht]; simp)
      rw [e]
      obtain ⟨k, q, h1, h2, h3⟩ := first_bad _ ht
      have hk : k < 9 := by
        rcases Nat.lt_or_ge k 9 with h | h
        · exact h
        · rw [List.getElem?_eq_none (by simp; omega)] at h1; cases h1
      rw [List.getElem?_drop] at h1
      exact rread_tail A c bs w hR k q hk h1 h2 (fun j hj => by have := h3 j hj; rwa [List.getElem?_drop] at this)
    | true =>
      have hz : ∀ j, j < 9 → bs[7 + j]? = some 0 := fun j hj => by
        have := none_bad ht j (by simp; omega)
        rwa [List.getElem?_drop] at this
      have hg : ∀ k, k < 16 → bs[k]? = some (bs.getD k 0) := fun k hk => by
        rw [List.getD_eq_getElem?_getD, List.getElem?_eq_getElem (by omega)]
        rfl
      by_cases h0 : tmR bs = Tm.zero
      · have e : readO bs = some (tmR bs) := if_pos ⟨hl, ht, .inr h0⟩
        rw [e]
        exact rread_zero A c bs w hR hz _ _ _ _ _ (hg 2 (by omega)) (hg 3 (by omega)) (hg 4 (by omega)) (hg 5 (by omega)) (hg 6 (by omega)) h0
      · cases hr : rightB (tmR bs) with
        | true =>
          have e : readO bs = some (tmR bs) := if_pos ⟨hl, ht, .inl hr⟩
          rw [e]
          exact rread_right A c bs w hR hz _ _ _ _ _ (hg 2 (by omega)) (hg 3 (by omega)) (hg 4 (by omega)) (hg 5 (by omega)) (hg 6 (by omega)) h0 hr
        | false =>
          have e : readO bs = none := if_neg (by rw [hr]; simp [h0])
          rw [e]
          exact rread_wrong A c bs w hR hz _ _ _ _ _ (hg 2 (by omega)) (hg 3 (by omega)) (hg 4 (by omega)) (hg 5 (by omega)) (hg 6 (by omega)) h0 hr
  · have e : readO bs = none := if_neg (by rw [hR.1]; simp [hn])
    rw [e]
    exact rread_len A n c bs w hR hn
end Go.Proofs.YtfampefflkkckaaDoor
