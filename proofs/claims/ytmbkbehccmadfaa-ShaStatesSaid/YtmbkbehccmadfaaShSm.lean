/-
  sha: Same, as the statements ask.
-/
import Derived.Test.YtmbkbehccmadfaaShV
import Derived.Test.YtmbkbehccmadfaaRoomy
namespace Go.Proofs.Ytmbkbehccmadfaa
open Go.RowKit Go
set_option linter.unusedVariables false
set_option linter.unusedSimpArgs false
set_option maxRecDepth 100000
theorem calls_named {P : Program} {f : FuncId} {args : Array Value} {w : World} {Q : Ending → World → Prop} (h : ∀ W, w = W → Calls P f args W Q) : Calls P f args w Q := h w rfl
theorem heap_named {w W : World} {g : Nat} {o : Obj} (h : w = W) (hk : w.heap[g]? = some o) : W.heap[g]? = some o := h ▸ hk
theorem below_named {B : Nat} {v w W : World} (h : w = W) (hk : Below B v w) : Below B v W := h ▸ hk
theorem same_s (A B : Option Addr) (n m c k : Nat) (xs ys : List UInt8) (s : Bool) (hs : (xs == ys) = s) (w : World) (h1 : RB w A n xs) (h2 : RB w B m ys) (hn : n ≤ 1000000000) (hm : m ≤ 1000000000) :
    Calls Try.prog 22 #[.slice A n c, .slice B m k] w fun e w' => e = .returned (.bool s) ∧ Below w.heap.size w w' := by
  subst hs
  refine (same_any A B n m c k xs ys w h1 h2 hn hm).mono ?_
  rintro e w' ⟨rfl, q, rfl⟩
  exact ⟨rfl, kp_drewN (Below.refl _ _) q⟩
theorem eq_s (A B : Option Addr) (n m c k : Nat) (xs ys : List UInt8) (s : Bool) (hs : (xs == ys) = s) (w : World) (h1 : RB w A n xs) (h2 : RB w B m ys) :
    Calls Try.prog 21 #[.slice A n c, .slice B m k] w fun e w' => e = .returned (.bool s) ∧ w = w' := by
  subst hs
  exact eq_any A B n m c k xs ys w h1 h2
theorem kept_s (A B : Option Addr) (n m c k base : Nat) (xs : List UInt8) (w : World) (h1 : Roomed w base A n c xs) (h2 : RB w B m xs) (hn : n ≤ 1000000000) :
    Calls Try.prog 16 #[.slice A n c, .slice B m k] w fun e w' => e = .returned (.bool true) ∧ w = w' := by
  have h := kept_any A B n m c k base xs xs w h1 h2 hn
  rwa [beq_self_eq_true] at h
set_option maxHeartbeats 4000000 in
theorem same_walk (A : Option Addr) (n c : Nat) (xs : List UInt8) (B : Option Addr) (m d : Nat) (ys : List UInt8) (w : World) (h1 : IsBs w A n c xs) (h2 : IsBs w B m d ys) :
    Calls Try.prog 6 #[.slice A n c, .slice B m d] w fun e w' => e = .returned (.bool true) ∧ Below w.heap.size w w' := by
  have WK := Lib.hid (fun W => works_any W)
  have hA := h1.rb
  have hB := h2.rb
  have l1 := h1.lim
  have l2 := h2.lim
  clear h1 h2
  obtain ⟨s, hs1⟩ : ∃ s, (xs == ys) = s := ⟨_, rfl⟩
  have hs2 : (ys == xs) = s := by rw [← hs1]; exact BEq.comm
  have HQ1 := Lib.hid hs1
  have HQ2 := Lib.hid hs2
  clear hs1 hs2
  by_cases hn : n ≤ 65536 ∧ m ≤ 65536
  · obtain ⟨hn, hm⟩ := hn
    have i1 : ¬ (n : Int) > 65536 := by omega
    have i2 : ¬ (m : Int) > 65536 := by omega
    go_enter Try.func6, Try.ntmps6
    go_wp2_with fail
    refine calls_named fun w0 hw0 => ?_
    have hbw0 : Below w.heap.size w w0 := below_named hw0 (Below.refl _ _)
    have hs0 := hbw0.size
    clear hw0
    refine (roomy_any A n c xs w0 (hA.below hbw0) (by omega)).mono ?_
    rintro e w1 ⟨Ax, cx, rfl, ox1, hb1⟩
    have hbw1 := hbw0.trans (hb1.mono hs0)
    have hs1 := hbw1.size
    have hz1 : w0.heap.size ≤ w1.heap.size := hb1.size
    clear hb1
    go_wp2_with fail
    refine (roomy_any B m d ys w1 (hB.below hbw1) (by omega)).mono ?_
    rintro e w2 ⟨Ay, cy, rfl, oy2, hb2⟩
    have hbw2 := hbw1.trans (hb2.mono hs1)
    have hs2 := hbw2.size
    have ox2 := ox1.below hb2 (Nat.le_refl _)
    have hz2 : w1.heap.size ≤ w2.heap.size := hb2.size
    clear hb2 ox1
    go_wp2_with fail
    refine (same_s Ax Ay n m cx cy xs ys s HQ1.out w2 ox2.rb oy2.rb (by omega) (by omega)).mono ?_
    intro e w3 hw3
    obtain ⟨rfl, hb3⟩ := hw3
    have hbw3 := hbw2.trans (hb3.mono hs2)
    have hs3 := hbw3.size
    have ox3 := ox2.below hb3 (Nat.le_refl _)
    have oy3 := oy2.below hb3 (Nat.le_refl _)
    have hz3 : w2.heap.size ≤ w3.heap.size := hb3.size
    clear hb3 ox2 oy2
    go_wp2_with fail
    refine (eq_s A B n m c d xs ys s HQ1.out w3 (hA.below hbw3) (hB.below hbw3)).mono ?_
    rintro e w' ⟨rfl, rfl⟩
    go_wp2_with fail
    refine (same_s Ay Ax m n cy cx ys xs s HQ2.out w3 oy3.rb ox3.rb (by omega) (by omega)).mono ?_
    intro e w4 hw4
    obtain ⟨rfl, hb4⟩ := hw4
    have hbw4 := hbw3.trans (hb4.mono hs3)
    have hs4 := hbw4.size
    have ox4 := ox3.below hb4 (Nat.le_refl _)
    have oy4 := oy3.below hb4 (Nat.le_refl _)
    have hz4 : w3.heap.size ≤ w4.heap.size := hb4.size
    clear hb4 ox3 oy3
    go_wp2_with fail
    refine (eq_s A B n m c d xs ys s HQ1.out w4 (hA.below hbw4) (hB.below hbw4)).mono ?_
    rintro e w' ⟨rfl, rfl⟩
    go_wp2_with fail
    refine (same_s Ax Ax n n cx cx xs xs true (by simp) w4 ox4.rb ox4.rb (by omega) (by omega)).mono ?_
    intro e w5 hw5
    obtain ⟨rfl, hb5⟩ := hw5
    have hbw5 := hbw4.trans (hb5.mono hs4)
    have hs5 := hbw5.size
    have ox5 := ox4.below hb5 (Nat.le_refl _)
    have oy5 := oy4.below hb5 (Nat.le_refl _)
    have hz5 : w4.heap.size ≤ w5.heap.size := hb5.size
    clear hb5 ox4 oy4
    go_wp2_with fail
    refine (kept_s Ax A n n cx c _ xs w5 ox5 (hA.below hbw5) (by omega)).mono ?_
    rintro e w' ⟨rfl, rfl⟩
    go_wp2_with fail
    refine (kept_s Ay B m m cy d _ ys w5 oy5 (hB.below hbw5) (by omega)).mono ?_
    rintro e w' ⟨rfl, rfl⟩
    clear ox5 oy5
    have HBW := Lib.hid hbw5
    have HSW : Hid (w.heap.size ≤ w5.heap.size) := hs5
    clear hbw5 hs5
    go_wp2_with fail
    refine (WK.out _).mono ?_
    rintro e w99 ⟨rfl, hb99⟩
    have HB9 := Lib.hid (HBW.out.trans (hb99.mono HSW.out))
    clear hb99
    go_wp2
    go_ret
    exact ⟨rfl, HB9.out⟩
  · by_cases hn1 : n ≤ 65536
    · have hm : 65536 < m := by omega
      have i1 : ¬ (n : Int) > 65536 := by omega
      have i2 : (m : Int) > 65536 := by omega
      clear hA hB
      go_enter Try.func6, Try.ntmps6
      go_wp2_with fail
      refine (WK.out _).mono ?_
      rintro e w3 ⟨rfl, hb3⟩
      have HB3 := Lib.hid hb3
      clear hb3
      go_wp2
      go_ret
      exact ⟨rfl, HB3.out⟩
    · have i1 : (n : Int) > 65536 := by omega
      clear hA hB
      go_enter Try.func6, Try.ntmps6
      go_wp2_with fail
      refine (WK.out _).mono ?_
      rintro e w3 ⟨rfl, hb3⟩
      have HB3 := Lib.hid hb3
      clear hb3
      go_wp2
      go_ret
      exact ⟨rfl, HB3.out⟩
end Go.Proofs.Ytmbkbehccmadfaa
