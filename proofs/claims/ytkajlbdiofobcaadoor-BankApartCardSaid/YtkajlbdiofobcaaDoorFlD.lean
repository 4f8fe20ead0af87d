/-
  flash: Program as a whole.
-/
import Derived.Test.YtkajlbdiofobcaaDoorFlC
namespace Go.Proofs.YtkajlbdiofobcaaDoor
open Go.RowKit Go
set_option linter.unusedVariables false
set_option linter.unusedSimpArgs false
set_option maxRecDepth 100000
/-- What Program makes of a flash, and what it answers. -/
def progQ : List UInt8 → Nat → FS → FS × Int
  | [], _, S => (S, 0)
  | x :: xs, j, S => if S.left = 1 then ({ S with off := true, left := 0 }, 6) else progQ xs (j + 1) (S.step j x)
theorem rb_far {g a : Nat} {w w' : World} {A : Option Addr} {n : Nat} {xs : List UInt8} (hR : RB w A n xs) (hf : Far g a w w') (hA : xs ≠ [] → ∀ d, A = some d → d.block ≠ g ∧ d.block ≠ a) : RB w' A n xs := by
  refine ⟨hR.1, fun hn => ?_⟩
  obtain ⟨b, off, e, hb, hc⟩ := hR.2 hn
  obtain ⟨h1, h2⟩ := hA hn _ e
  exact ⟨b, off, e, Nat.lt_of_lt_of_le hb hf.size, fun j hj => (World.cell?_of_block (hf.block b hb h1 h2)).trans (hc j hj)⟩
section
variable {base g a c : Nat} {S : FS} {w : World}
set_option maxHeartbeats 2000000 in
theorem fprogram_any (h : FL w base g a c S) (hS : S.off = false) (k n cA : Nat) (A : Option Addr) (xs : List UInt8) (hR : RB w A n xs) (hA : xs ≠ [] → ∀ d, A = some d → d.block ≠ g ∧ d.block ≠ a)
    (hk : n = 0 ∨ k + n ≤ S.n * S.s) (hn9 : n ≤ 1000000000) (hw : S.wr + n < 4611686018427387904) :
    Calls Tryd.prog 34 #[.pointer (some ⟨g, 0, none⟩), .int .i64 (k : Int), .slice A n cA] w
      fun e w' => e = .returned (.int .i64 (progQ xs k S).2) ∧ FL w' base g a c (progQ xs k S).1 ∧ Far g a w w' := by
  have H := Lib.hid h
  have HR := Lib.hid hR
  have HA := Lib.hid hA
  have HS := Lib.hid hS
  have hglt := h.alt
  have halt := h.ab.2
  have hM := h.big
  have hl := Lib.hid hR.1
  clear h hR hA hS
  go_enter Tryd.func34, Tryd.ntmps34
  go_wp2_with fail
  refine calls_nm fun W hW => ?_
  have hbW : Hid (Below w.heap.size w W) := by rw [← hW]; exact kp_alloc (kp_alloc (Below.refl _ _) _) _
  have h3 : W.heap[w.heap.size]? = some (.cells #[.pointer (some ⟨g, 0, none⟩)] 41) := by rw [← hW]; exact has_alloc (has_new _ _) _
  have h4 : W.heap[w.heap.size + 1]? = some (.cells #[.int .i64 (k : Int)] 3) := by rw [← hW]; exact has_new' _ _ _ (by simp)
  have HW := Lib.hid (H.out.below hbW.out)
  have H3 := Lib.hid h3
  have H4 := Lib.hid h4
  obtain ⟨k0, k1, k2, k3, k4, k5⟩ := cells_6 HW.out.st
  have c3 := cells_1 h3
  have c4 := cells_1 h4
  have RD := Lib.hid (fready_any HW.out)
  rw [HS.out] at RD
  clear hW h3 h4 k0 k2 k3 k4 k5
  obtain ⟨M, hMM⟩ : ∃ M, S.n * S.s = M := ⟨_, rfl⟩
  rw [hMM] at hk hM k1
  have HMM := Lib.hid hMM
  clear hMM
  refine RD.out.mono ?_
  rintro e w1 ⟨rfl, rfl⟩
  clear RD
  have e1 : IntKind.i64.wrap ((M : Int) - (n : Int)) = (M : Int) - (n : Int) := IntWalk.i64_in _ (by omega)
  have i1 : (0 : Int) ≤ (k : Int) := by omega
  have i2 : ¬ ((k : Int) < 0) := by omega
  have HK := Lib.hid hk
  have HB1 := Lib.hid hglt
  have HB2 := Lib.hid halt
  have LOOP : Hid (∀ (j : Nat), ∃ (i : Nat) (T : FS), (Value.int .i64 0 = .int .i64 (i : Int)) ∧ i ≤ n ∧ Hid (FL (w1.drewN j) base g a c T ∧ progQ xs k S = progQ (xs.drop i) (k + i) T ∧ T.n = S.n ∧ T.s = S.s ∧ T.wr ≤ S.wr + i ∧ Far g a w (w1.drewN j) ∧ (w1.drewN j).heap[w.heap.size]? = some (.cells #[.pointer (some ⟨g, 0, none⟩)] 41) ∧ (w1.drewN j).heap[w.heap.size + 1]? = some (.cells #[.int .i64 (k : Int)] 3))) :=
    fun j => ⟨0, S, rfl, Nat.zero_le _, HW.out.drewN j, rfl, rfl, rfl, Nat.le_refl _, (Far.of_below hbW.out).drewN j, H3.out, H4.out⟩
  have GO : Hid (n = 0 ∨ (0 < n ∧ (k : Int) ≤ (M : Int) - (n : Int))) := by rcases Nat.eq_zero_or_pos n with h0 | h0; exact .inl h0; exact .inr ⟨h0, by omega⟩
  clear hk hglt halt H HW
  rcases GO.out with h0 | ⟨h0, h9⟩
  all_goals
    first
      | (have p1 : ¬ ((n : Int) > 0) := by omega
         have p2 : ¬ (0 < n) := by omega
         have p3 : ¬ ((0 : Int) < (n : Int)) := by omega
         have p4 : decide ((n : Int) > 0) = false := decide_eq_false p3
         have p5 : decide (n > 0) = false := decide_eq_false p2
         clear h0)
      | (have p1 : (0 : Int) < (n : Int) := by omega
         have p2 : ¬ ((k : Int) > (M : Int) - (n : Int)) := by omega
         have p4 : decide ((n : Int) > 0) = true := decide_eq_true p1
         have p5 : decide (n > 0) = true := decide_eq_true h0
         have p6 : decide ((k : Int) > (M : Int) - (n : Int)) = false := decide_eq_false p2
         have p7 : decide ((M : Int) - (n : Int) < (k : Int)) = false := decide_eq_false p2)
    have p8 : decide ((k : Int) < 0) = false := decide_eq_false i2
    go_wp2_with fail
    go_quiet (fail)
    go_wp2
    go_loopw [37] (fun v wl => ∃ (i : Nat) (T : FS), v = .int .i64 (i : Int) ∧ i ≤ n ∧ Hid (FL wl base g a c T ∧ progQ xs k S = progQ (xs.drop i) (k + i) T ∧ T.n = S.n ∧ T.s = S.s ∧ T.wr ≤ S.wr + i ∧ Far g a w wl ∧ wl.heap[w.heap.size]? = some (.cells #[.pointer (some ⟨g, 0, none⟩)] 41) ∧ wl.heap[w.heap.size + 1]? = some (.cells #[.int .i64 (k : Int)] 3))) (fun v _ => n - (intOf v).toNat)
    case atStart => exact LOOP.out _
    case round =>
      obtain ⟨i, T, rfl, hi, HT⟩ := hrel
      clear k1 c3 c4 LOOP H3 H4 hbW e1
      by_cases hlt : i < n
      · first
        | (exfalso; omega)
        | (obtain ⟨t1, t2, t3, t4, t5, t6, t7, t8⟩ := HT.out
           have hx1 : i < xs.length := by rw [hl.out]; exact hlt
           obtain ⟨x, hx⟩ : ∃ x, xs[i] = x := ⟨_, rfl⟩
           obtain ⟨b, off, e, hb, hc⟩ := (rb_far HR.out t6 HA.out).2.at_ hx1
           rw [hx] at hc
           have hbw : b < wr.heap.size := hb
           have hdrop : xs.drop i = x :: xs.drop (i + 1) := by rw [List.drop_eq_getElem_cons hx1, hx]
           have hsz := t6.size
           have hg0 := HB1.out
           have ha0 := HB2.out
           have hmb : k + i < T.n * T.s := by rw [t3, t4, HMM.out]; have := HK.out; omega
           have WP : Hid (∀ W', Below wr.heap.size wr W' → W'.heap[wr.heap.size]? = some (.cells #[.int .i64 (i : Int)] 3) → W'.heap[wr.heap.size + 1]? = some (.cells #[.int .u8 (x.toNat : Int)] 5) → Calls Tryd.prog 46 #[.pointer (some ⟨g, 0, none⟩), .func (.func 47) #[] #[.pointer (some ⟨w.heap.size, 0, none⟩), .pointer (some ⟨w.heap.size + 1, 0, none⟩), .pointer (some ⟨wr.heap.size, 0, none⟩), .pointer (some ⟨wr.heap.size + 1, 0, none⟩)], .func (.func 48) #[] #[]] W'
               fun e w' => e = .returned (.int .i64 (if T.left = 1 then 6 else 0)) ∧ FL w' base g a c (T.step (k + i) x) ∧ Far g a wr w' ∧ w'.heap[w.heap.size]? = some (.cells #[.pointer (some ⟨g, 0, none⟩)] 41) ∧ w'.heap[w.heap.size + 1]? = some (.cells #[.int .i64 (k : Int)] 3)) := fun W' hb' q8 q9 =>
             (fwrite_prog (t1.below hb') k i _ _ _ _ x hmb (by omega) (by omega) (by omega) (by have := t1.alt; omega) (by have := t1.alt; omega) (cells_1 (has_below t7 hb')) (cells_1 (has_below t8 hb')) (cells_1 q8) (cells_1 q9)).mono fun e w' ⟨z1, z2, z3⟩ =>
               ⟨z1, z2, (Far.of_below hb').trans z3, z3.has (has_below t7 hb') (by omega) (by omega), z3.has (has_below t8 hb') (by omega) (by omega)⟩
           have c3 := cells_1 (has_alloc (has_alloc t7 (.cells #[.int .i64 (i : Int)] 3)) (.cells #[.int .u8 (x.toNat : Int)] 5))
           have NX : Hid (T.left = 1 → progQ xs k S = (T.step (k + i) x, 6)) := fun hl1 => by rw [t2, hdrop]; unfold progQ FS.step; rw [if_pos hl1, if_pos hl1]
           have NY : Hid (¬ T.left = 1 → progQ xs k S = progQ (xs.drop (i + 1)) (k + (i + 1)) (T.step (k + i) x) ∧ (T.step (k + i) x).n = S.n ∧ (T.step (k + i) x).s = S.s ∧ (T.step (k + i) x).wr ≤ S.wr + (i + 1)) := fun hl1 => by
             refine ⟨by rw [t2, hdrop]; conv => { lhs; unfold progQ }; rw [if_neg hl1]; rfl, ?_⟩
             unfold FS.step
             rw [if_neg hl1]
             exact ⟨t3, t4, by show T.wr + 1 ≤ _; omega⟩
           have HFW := Lib.hid t6
           clear HT t1 t2 t3 t4 t5 t6 t7 t8 hdrop hsz hmb hx hx1
           subst e
           have j1 : (i : Int) < (n : Int) := by omega
           go_wp2_with fail
           refine calls_nm fun W' hW' => ?_
           have hb' : Below wr.heap.size wr W' := by rw [← hW']; exact kp_alloc (kp_alloc (Below.refl _ _) _) _
           have q8 : W'.heap[wr.heap.size]? = some (.cells #[.int .i64 (i : Int)] 3) := by rw [← hW']; exact has_alloc (has_new _ _) _
           have q9 : W'.heap[wr.heap.size + 1]? = some (.cells #[.int .u8 (x.toNat : Int)] 5) := by rw [← hW']; exact has_new' _ _ _ (by simp)
           refine (WP.out W' hb' q8 q9).mono ?_
           clear hW' q8 q9 hb' WP
           by_cases hl1 : T.left = 1
           · have NX := Lib.hid (NX.out hl1)
             rw [if_pos hl1]
             clear hl1 NY
             rintro e w2 ⟨rfl, z1, z2, z3, z4⟩
             have Z := Lib.hid (And.intro z1 (HFW.out.trans z2))
             clear z1 z2 z3 z4
             go_wp2
             go_ret
             rw [NX.out]
             exact ⟨rfl, Z.out⟩
           · have NY := Lib.hid (NY.out hl1)
             rw [if_neg hl1]
             clear hl1 NX
             rintro e w2 ⟨rfl, z1, z2, z3, z4⟩
             have Z := Lib.hid (And.intro z1 (And.intro (HFW.out.trans z2) (And.intro z3 z4)))
             clear z1 z2 z3 z4
             go_wp2
             go_roundw
             case rel => exact ⟨i + 1, _, by go_num, by omega, Z.out.1, NY.out.1, NY.out.2.1, NY.out.2.2.1, NY.out.2.2.2, Z.out.2⟩
             case measure => simp [intOf]; omega)
      · obtain rfl : i = n := by omega
        have hend : Hid (progQ xs k S = (T, 0)) := by
          rw [HT.out.2.1, List.drop_eq_nil_of_le (by rw [hl.out]; exact Nat.le_refl _)]
          rfl
        go_wp2
        go_ret
        rw [hend.out]
        exact ⟨rfl, HT.out.1, HT.out.2.2.2.2.2.1⟩
end
end Go.Proofs.YtkajlbdiofobcaaDoor
