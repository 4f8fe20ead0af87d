/-
  siglist: the row SiglistMerges (made by genSi2.py).
-/
import Derived.Test.YtfampefflkkckaaDoorSiBf
namespace Go.Proofs.YtfampefflkkckaaDoor
open Go.RowKit Go
set_option linter.unusedVariables false
set_option linter.unusedSimpArgs false
set_option maxRecDepth 100000

set_option maxHeartbeats 8000000 in
theorem merges_row (A : Option Addr) (n c : Nat) (xa : List UInt8) (D : Option Addr) (m d : Nat) (xb : List UInt8) (w : World) (B0 : IsBs w A n c xa) (B1 : IsBs w D m d xb) (hT : Sizes w) :
    Calls Tryd.prog 5 #[.slice A n c, .slice D m d] w fun e w' => e = .returned (.bool true) ∧ Below w.heap.size w w' := by
  have WK : Hid (∀ W, Below w.heap.size w W → Calls Tryd.prog 9 #[] W fun e w' => e = .returned (.bool true) ∧ Below W.heap.size W w') := fun W h => works18_any W (hT.below' h)
  have HT := Lib.hid hT
  have HR := Lib.hid B0.rb
  have HD := Lib.hid B1.rb
  have HC := Lib.hid (And.intro B0.le (show c ≤ 9223372036854775807 by have := B0.max; unfold maxLen at this; omega))
  have HE := Lib.hid (And.intro B1.le (show d ≤ 9223372036854775807 by have := B1.max; unfold maxLen at this; omega))
  have hnl := B0.lim
  have hml := B1.lim
  clear B0 B1 hT
  by_cases hbig : 20000 < n
  · have u1 : decide ((n : Int) > (20000 : Int)) = true := decide_eq_true (by omega)
    have u2 : decide ((20000 : Int) < (n : Int)) = true := decide_eq_true (by omega)
    have u3 : decide (20000 < n) = true := decide_eq_true hbig
    clear hbig
    go_enter Tryd.func5, Tryd.ntmps5
    go_wp2_with fail
    refine (WK.out _ (Below.refl _ _)).mono ?_
    rintro e Wz ⟨rfl, hbz⟩
    have HBZ := Lib.hid (kp_call (Below.refl _ _) hbz)
    clear hbz
    go_wp2
    go_ret
    exact ⟨rfl, HBZ.out⟩
  have u1 : decide ((n : Int) > (20000 : Int)) = false := decide_eq_false (by omega)
  have u2 : decide ((20000 : Int) < (n : Int)) = false := decide_eq_false (by omega)
  have u3 : decide (20000 < n) = false := decide_eq_false hbig
  by_cases hdb : 20000 < m
  · have v1 : decide ((m : Int) > (20000 : Int)) = true := decide_eq_true (by omega)
    have v2 : decide ((20000 : Int) < (m : Int)) = true := decide_eq_true (by omega)
    have v3 : decide (20000 < m) = true := decide_eq_true hdb
    clear hbig hdb
    go_enter Tryd.func5, Tryd.ntmps5
    go_wp2_with fail
    refine (WK.out _ (Below.refl _ _)).mono ?_
    rintro e Wz ⟨rfl, hbz⟩
    have HBZ := Lib.hid (kp_call (Below.refl _ _) hbz)
    clear hbz
    go_wp2
    go_ret
    exact ⟨rfl, HBZ.out⟩
  have v1 : decide ((m : Int) > (20000 : Int)) = false := decide_eq_false (by omega)
  have v2 : decide ((20000 : Int) < (m : Int)) = false := decide_eq_false (by omega)
  have v3 : decide (20000 < m) = false := decide_eq_false hdb
  obtain ⟨ev, hev⟩ : ∃ ev, mErr xa xb = ev := ⟨_, rfl⟩
  obtain ⟨mb, hmb⟩ : ∃ mb, mBytes xa xb = mb := ⟨_, rfl⟩
  have HV := Lib.hid (And.intro hev hmb)
  have TA := Lib.hid (twin_any A n c xa w HR.out (by omega))
  have TB := Lib.hid (fun W (h : Below w.heap.size w W) => twin_any D m d xb W (HD.out.below h) (by omega))
  clear hev hmb hbig hdb
  go_enter Tryd.func5, Tryd.ntmps5
  go_wp2_with fail
  refine TA.out.mono ?_
  clear TA
  rintro e W1 ⟨A1, n1, c1, rfl, ho1, hb1⟩
  obtain rfl : n1 = n := ho1.len.symm.trans HR.out.1
  have B1 := Lib.hid hb1
  have O1 := Lib.hid ho1
  clear ho1 hb1
  go_wp2_with fail
  refine (TB.out W1 B1.out).mono ?_
  clear TB
  rintro e W2 ⟨A2, n2, c2, rfl, ho2, hb2⟩
  obtain rfl : n2 = m := ho2.len.symm.trans HD.out.1
  have B2 := Lib.hid (kp_call B1.out hb2)
  have O12 := Lib.hid (O1.out.below hb2 (Nat.le_refl _))
  have O2 := Lib.hid ho2
  clear ho2 hb2
  have hc1 := O12.out.cap
  have hc2 := O2.out.cap
  have M1 := lmerge_any A1 n1 c1 xa A2 n2 c2 xb W2 O12.out.rb O2.out.rb (HT.out.below' B2.out) hc1.1 (by have := hc1.2; unfold maxLen at this; omega) hc2.1 (by have := hc2.2; unfold maxLen at this; omega)
  unfold MergePost at M1
  rw [HV.out.1, HV.out.2] at M1
  have HM1 := Lib.hid M1
  clear M1 hc1 hc2
  go_wp2_with fail
  refine HM1.out.mono ?_
  clear HM1
  rintro e W3 ⟨A3, n3, c3, rfl, ho3, hb3⟩
  have B3 := Lib.hid (kp_call B2.out hb3)
  have O13 := Lib.hid (O12.out.below hb3 (Nat.le_refl _))
  have O23 := Lib.hid (O2.out.below hb3 (Nat.le_refl _))
  have O3 := Lib.hid ho3
  clear hb3 ho3
  have M2 := dmerge_any A n1 c xa D n2 d xb W3 (HR.out.below B3.out) (HD.out.below B3.out) (HT.out.below' B3.out) HC.out.1 HC.out.2 HE.out.1 HE.out.2
  unfold MergePost at M2
  rw [HV.out.1, HV.out.2] at M2
  have HM2 := Lib.hid M2
  clear M2
  go_wp2_with fail
  refine HM2.out.mono ?_
  clear HM2
  rintro e W4 ⟨A4, n4, c4, rfl, ho4, hb4⟩
  have B4 := Lib.hid (kp_call B3.out hb4)
  have S1 := Lib.hid (same_any A3 A4 n3 n4 c3 c4 mb mb W4 (O3.out.rb.below hb4) ho4.rb)
  rw [show (mb == mb) = true by simp] at S1
  have S2 := Lib.hid (same_any A1 A n1 n1 c1 c xa xa W4 (O13.out.rb.below hb4) (HR.out.below B4.out))
  rw [show (xa == xa) = true by simp] at S2
  have S3 := Lib.hid (same_any A2 D n2 n2 c2 d xb xb W4 (O23.out.rb.below hb4) (HD.out.below B4.out))
  rw [show (xb == xb) = true by simp] at S3
  clear hb4 ho4
  have e1 : (ev == ev) = true := by simp
  go_wp2_with fail
  refine S1.out.mono ?_
  clear S1
  rintro e W5 ⟨rfl, rfl⟩
  go_wp2_with fail
  refine S2.out.mono ?_
  clear S2
  rintro e W5 ⟨rfl, rfl⟩
  go_wp2_with fail
  refine S3.out.mono ?_
  clear S3
  rintro e W5 ⟨rfl, rfl⟩
  go_wp2_with fail
  refine (WK.out _ (B4.out)).mono ?_
  rintro e Wz ⟨rfl, hbz⟩
  have HBZ := Lib.hid (kp_call (B4.out) hbz)
  clear hbz
  go_wp2
  go_ret
  exact ⟨rfl, HBZ.out⟩
end Go.Proofs.YtfampefflkkckaaDoor
