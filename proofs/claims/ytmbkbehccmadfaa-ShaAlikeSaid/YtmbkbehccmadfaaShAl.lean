/-
  sha: what is the same.
-/
import Derived.Test.YtmbkbehccmadfaaShTw
import Derived.Lib.SmallJoins
import Derived.OpenShut
import Derived.Deep.Cut
import Derived.Deep.CutRange
import Derived.Deep.DeepCutAuto
namespace Go.Proofs.Ytmbkbehccmadfaa
open Go.RowKit Go
set_option linter.unusedVariables false
set_option linter.unusedSimpArgs false
set_option maxRecDepth 100000
section
open Go.ChangeShapes Go.WideShapes Go.ChangeAt Go.Joins
theorem slice_of {H : Type} {enc : TypeId × Value → H} {W : World} {base n : Nat} {sp : Nat → Bool} {c : Value} {x : DataW H × List MemPlace} (h : DataW.trod enc Try.prog W base sp true n 22 [c] = some x) : ∃ A n k, c = Value.slice A n k := by
  rcases DataW.trod_slice Try.underlying22 h with ⟨e, _⟩ | ⟨a, l, k, _, _, _, _, e, _⟩
  · injection e with e _; exact ⟨_, _, _, e⟩
  · injection e with e _; exact ⟨_, _, _, e⟩
end
/-- lintellaw03.Three, as the model holds it. -/
structure ThreeP where
  Xa : Option Addr
  na : Nat
  ca : Nat
  ba : List UInt8
  Xb : Option Addr
  nb : Nat
  cb : Nat
  bb : List UInt8
  Xc : Option Addr
  nc : Nat
  cc : Nat
  bc : List UInt8
  at_ : Int
def ThreeP.cells (o : ThreeP) : Array Value := #[.slice o.Xa o.na o.ca, .slice o.Xb o.nb o.cb, .slice o.Xc o.nc o.cc, .int .i64 o.at_]
def ThreeP.val (o : ThreeP) : Value := .agg o.cells
structure IsThreeP (w : World) (o : ThreeP) : Prop where
  a : IsBs w o.Xa o.na o.ca o.ba
  b : IsBs w o.Xb o.nb o.cb o.bb
  c : IsBs w o.Xc o.nc o.cc o.bc
  at_ : -9223372036854775808 ≤ o.at_ ∧ o.at_ ≤ 9223372036854775807
section
open Go.ChangeShapes Go.WideShapes Go.ChangeAt Go.Joins
theorem open_p51 {H : Type} {enc : TypeId × Value → H} {W : World} {r : Reach} {b0 : Nat} {v : Value} {d : DataW H} {p : List MemPlace} (hv : Value.okWide Try.prog W r b0 51 v)
    (h : DataW.Trod enc Try.prog W 0 (fun _ => true) true 51 v d p) : ∃ x : ThreeP, v = x.val ∧ IsThreeP W x := by
  obtain ⟨cs, rfl, hsz⟩ := okWide_struct Try.underlying51 hv
  have hsz6 : cs.size = 4 := hsz.trans (by kernel_rfl)
  obtain ⟨l⟩ := cs
  obtain ⟨fuel, hf⟩ := h
  obtain ⟨xs, n, _, _, _, hlen, hg⟩ := DataW.trod_struct Try.underlying51 hf
  match l, hsz6 with
  | [c0, c1, c2, c3], _ =>
    match xs, hlen with
    | [y0, y1, y2, y3], _ =>
      have g0 : DataW.trod enc Try.prog W 0 (fun _ => true) true n 22 [c0] = some y0 := by simpa [Value.cells, show Try.prog.cellsOf 22 = 1 by kernel_rfl] using hg 0 _ rfl
      obtain ⟨A0, n0, k0, rfl⟩ : ∃ A n k, c0 = Value.slice A n k := slice_of g0
      obtain ⟨b0, B0⟩ := open_bs Try.underlying22 Try.underlying5 (by kernel_rfl) (show DataW.trod enc Try.prog W 0 (fun _ => true) true n 22 (Value.slice A0 n0 k0).cells.toList = some (y0.1, y0.2) by simpa [Value.cells] using g0)
      have g1 : DataW.trod enc Try.prog W 0 (fun _ => true) true n 22 [c1] = some y1 := by simpa [Value.cells, show Try.prog.cellsOf 22 = 1 by kernel_rfl] using hg 1 _ rfl
      obtain ⟨A1, n1, k1, rfl⟩ : ∃ A n k, c1 = Value.slice A n k := slice_of g1
      obtain ⟨b1, B1⟩ := open_bs Try.underlying22 Try.underlying5 (by kernel_rfl) (show DataW.trod enc Try.prog W 0 (fun _ => true) true n 22 (Value.slice A1 n1 k1).cells.toList = some (y1.1, y1.2) by simpa [Value.cells] using g1)
      have g2 : DataW.trod enc Try.prog W 0 (fun _ => true) true n 22 [c2] = some y2 := by simpa [Value.cells, show Try.prog.cellsOf 22 = 1 by kernel_rfl] using hg 2 _ rfl
      obtain ⟨A2, n2, k2, rfl⟩ : ∃ A n k, c2 = Value.slice A n k := slice_of g2
      obtain ⟨b2, B2⟩ := open_bs Try.underlying22 Try.underlying5 (by kernel_rfl) (show DataW.trod enc Try.prog W 0 (fun _ => true) true n 22 (Value.slice A2 n2 k2).cells.toList = some (y2.1, y2.2) by simpa [Value.cells] using g2)
      have g3 : DataW.trod enc Try.prog W 0 (fun _ => true) true n 3 [c3] = some y3 := by simpa [Value.cells, show Try.prog.cellsOf 3 = 1 by kernel_rfl] using hg 3 _ rfl
      obtain ⟨z3, e3, _, w3⟩ := DataW.trod_int Try.underlying3 g3
      injection e3 with e3 _
      subst e3
      refine ⟨⟨A0, n0, k0, b0, A1, n1, k1, b1, A2, n2, k2, b2, z3⟩, ?_, ?_⟩
      · rfl
      · exact ⟨B0, B1, B2, bounds_i64 w3⟩
end
theorem xor64 (q : UInt8) : bits .xor .u8 (q.toNat : Int) 64 = (((q ^^^ 64).toNat : Nat) : Int) := by
  have h := u8_xor_nat q.toNat 64 q.toNat_lt (by decide)
  rw [UInt8.toNat_xor]
  exact h
theorem xor64_back (q : UInt8) : (q ^^^ 64) ^^^ 64 = q := by rw [UInt8.xor_assoc, UInt8.xor_self, UInt8.xor_zero]
theorem xor64_ne (q : UInt8) : q ^^^ 64 ≠ q := by
  intro h
  have h2 : q.toNat ^^^ 64 = q.toNat := by have := congrArg UInt8.toNat h; rwa [UInt8.toNat_xor] at this
  have h3 : q.toNat ^^^ (q.toNat ^^^ 64) = 0 := by rw [h2, Nat.xor_self]
  rw [← Nat.xor_assoc, Nat.xor_self, Nat.zero_xor] at h3
  cases h3
theorem List.set_getElem?_self2 {l : List UInt8} {j : Nat} {q : UInt8} (h : l[j]? = some q) : l.set j q = l := by
  obtain ⟨hl, e⟩ := List.getElem?_eq_some_iff.1 h
  rw [← e]
  exact List.set_getElem_self hl
set_option maxHeartbeats 16000000 in
theorem alike_walk (o : ThreeP) (w : World) (h : IsThreeP w o) :
    Calls Try.prog 11 #[o.val] w fun e w' => e = .returned (.bool true) ∧ Below w.heap.size w w' := by
  obtain ⟨A0, n, ca, xs, B0, m, cb, ys, C0, k, cc, zs, at_⟩ := o
  obtain ⟨h1, h2, h3, h4⟩ := h
  simp only at h1 h2 h3 h4
  unfold ThreeP.val ThreeP.cells
  have WK := Lib.hid (fun W => works_any W)
  have l1 := h1.lim
  have l2 := h2.lim
  have l3 := h3.lim
  have l4 := h1.le
  have l5 : ca ≤ 9223372036854775807 := by have h5 := h1.max; unfold maxLen at h5; omega
  by_cases hn : n ≤ 4096 ∧ m ≤ 4096 ∧ k ≤ 4096
  · obtain ⟨hn, hm, hk⟩ := hn
    have i1 : ¬ (n : Int) > 4096 := by omega
    have i2 : ¬ (m : Int) > 4096 := by omega
    have i3 : ¬ (k : Int) > 4096 := by omega
    have hA := h1.rb
    have hB := h2.rb
    have hC := h3.rb
    obtain ⟨s, hs⟩ : ∃ s, (xs == ys) = s := ⟨_, rfl⟩
    have hxy := Lib.hid hs
    have hyx : Hid ((ys == xs) = s) := by unfold Hid; rw [← hs]; exact BEq.comm
    have hxa : Hid ((xs == xs ++ [0]) = false) := by
      refine beq_eq_false_iff_ne.2 fun e => ?_
      have := congrArg List.length e
      simp at this
    have RN : Hid (∀ W : World, RB (W.alloc (.cells #[.int .u8 0] 5)) (some ⟨W.heap.size, 0, none⟩) 1 [0]) := fun W => ⟨rfl, (bs_new W [0] 5 (0, 0) _ rfl).more (by simp)⟩
    clear h1 h2 h3 hs
    go_enter Try.func11, Try.ntmps11
    go_wp2_with fail
    refine calls_nm fun w1 hw1 => ?_
    have hb1 : Below w.heap.size w w1 := by rw [← hw1]; exact kp_alloc (Below.refl _ _) _
    have RBa := Lib.hid (fun W (h : Below w1.heap.size w1 W) => hA.below (hb1.trans (h.mono hb1.size)))
    have RBb := Lib.hid (fun W (h : Below w1.heap.size w1 W) => hB.below (hb1.trans (h.mono hb1.size)))
    have RBc := Lib.hid (fun W (h : Below w1.heap.size w1 W) => hC.below (hb1.trans (h.mono hb1.size)))
    have HBW1 := Lib.hid hb1
    have HBw1 := Lib.hid (Below.refl w1.heap.size w1)
    clear hw1 hb1 hA hB hC
    with_reducible refine (same_s A0 B0 n m ca cb xs ys s hxy.out _ (RBa.out _ HBw1.out) (RBb.out _ HBw1.out) (by omega) (by omega)).mono ?_
    rintro e v1 ⟨rfl, hv1⟩
    have HBv1 := Lib.hid hv1
    clear hv1
    go_upto_region 8 with (fail)
    go_cut [68] (fun t wx => t = .bool false ∧ Below w1.heap.size w1 wx)
    case first => as_aux_lemma =>
      cases s with
      | false =>
        go_wp2_with fail
        with_reducible refine (same_s B0 A0 m n cb ca ys xs false hyx.out _ (RBb.out _ HBv1.out) (RBa.out _ HBv1.out) (by omega) (by omega)).mono ?_
        rintro e v2 ⟨rfl, hqv2⟩
        have HBv2 : Hid (Below w1.heap.size w1 v2) := kp_call HBv1.out hqv2
        clear hqv2
        go_wp2_with fail
        with_reducible refine (same_s A0 A0 n n ca ca xs xs true (by simp) _ (RBa.out _ HBv2.out) (RBa.out _ HBv2.out) (by omega) (by omega)).mono ?_
        rintro e v3 ⟨rfl, hqv3⟩
        have HBv3 : Hid (Below w1.heap.size w1 v3) := kp_call HBv2.out hqv3
        clear hqv3
        go_wp2_with fail
        go_meet
        exact ⟨rfl, HBv3.out⟩
      | true =>
        have hxye : xs = ys := eq_of_beq hxy.out
        obtain rfl : n = m := by rw [← (RBa.out _ HBw1.out).1, ← (RBb.out _ HBw1.out).1, hxye]
        obtain ⟨s2, hs2⟩ : ∃ s2, (ys == zs) = s2 := ⟨_, rfl⟩
        have hyz := Lib.hid hs2
        have hxz : Hid ((xs == zs) = s2) := by unfold Hid; rw [hxye]; exact hs2
        clear hs2 hxye
        cases s2 with
        | false =>
          go_wp2_with fail
          with_reducible refine (same_s B0 A0 n n cb ca ys xs true hyx.out _ (RBb.out _ HBv1.out) (RBa.out _ HBv1.out) (by omega) (by omega)).mono ?_
          rintro e v2 ⟨rfl, hqv2⟩
          have HBv2 : Hid (Below w1.heap.size w1 v2) := kp_call HBv1.out hqv2
          clear hqv2
          go_wp2_with fail
          with_reducible refine (same_s A0 A0 n n ca ca xs xs true (by simp) _ (RBa.out _ HBv2.out) (RBa.out _ HBv2.out) (by omega) (by omega)).mono ?_
          rintro e v3 ⟨rfl, hqv3⟩
          have HBv3 : Hid (Below w1.heap.size w1 v3) := kp_call HBv2.out hqv3
          clear hqv3
          go_wp2_with fail
          with_reducible refine (same_s B0 C0 n k cb cc ys zs false hyz.out _ (RBb.out _ HBv3.out) (RBc.out _ HBv3.out) (by omega) (by omega)).mono ?_
          rintro e v4 ⟨rfl, hqv4⟩
          have HBv4 : Hid (Below w1.heap.size w1 v4) := kp_call HBv3.out hqv4
          clear hqv4
          go_wp2_with fail
          go_meet
          exact ⟨rfl, HBv4.out⟩
        | true =>
          go_wp2_with fail
          with_reducible refine (same_s B0 A0 n n cb ca ys xs true hyx.out _ (RBb.out _ HBv1.out) (RBa.out _ HBv1.out) (by omega) (by omega)).mono ?_
          rintro e v2 ⟨rfl, hqv2⟩
          have HBv2 : Hid (Below w1.heap.size w1 v2) := kp_call HBv1.out hqv2
          clear hqv2
          go_wp2_with fail
          with_reducible refine (same_s A0 A0 n n ca ca xs xs true (by simp) _ (RBa.out _ HBv2.out) (RBa.out _ HBv2.out) (by omega) (by omega)).mono ?_
          rintro e v3 ⟨rfl, hqv3⟩
          have HBv3 : Hid (Below w1.heap.size w1 v3) := kp_call HBv2.out hqv3
          clear hqv3
          go_wp2_with fail
          with_reducible refine (same_s B0 C0 n k cb cc ys zs true hyz.out _ (RBb.out _ HBv3.out) (RBc.out _ HBv3.out) (by omega) (by omega)).mono ?_
          rintro e v4 ⟨rfl, hqv4⟩
          have HBv4 : Hid (Below w1.heap.size w1 v4) := kp_call HBv3.out hqv4
          clear hqv4
          go_wp2_with fail
          with_reducible refine (same_s A0 C0 n k ca cc xs zs true hxz.out _ (RBa.out _ HBv4.out) (RBc.out _ HBv4.out) (by omega) (by omega)).mono ?_
          rintro e v5 ⟨rfl, hqv5⟩
          have HBv5 : Hid (Below w1.heap.size w1 v5) := kp_call HBv4.out hqv5
          clear hqv5
          go_wp2_with fail
          go_meet
          exact ⟨rfl, HBv5.out⟩
    case rest => as_aux_lemma =>
      obtain ⟨hc1, hc2⟩ := hcut
      have HBc := Lib.hid hc2
      clear hc2 HBv1
      subst hc1
      go_wp2_with (at_builtin; refine wpList_apn _ _ rfl rfl rfl w1.heap.size none 0 0 [] rfl (OwnB.nil _ _) A0 n ca xs rfl (RBa.out _ HBc.out) (by omega) HBc.out.size ?_)
      intro D0 cd w7 hown7 hg7
      have OD := Lib.hid hown7
      have HB7 : Hid (Below w1.heap.size w1 w7) := HBc.out.grown hg7 HBc.out.size (fun g hg => by cases hg)
      have hcd : n ≤ cd ∧ cd ≤ 9223372036854775807 := by have h5 := hown7.cap; unfold maxLen at h5; omega
      obtain ⟨hcd1, hcd2⟩ := hcd
      clear hown7 hg7 HBc
      by_cases ha : 0 ≤ at_
      · by_cases hb : at_ < (n : Int)
        · obtain ⟨j, rfl⟩ : ∃ j : Nat, at_ = (j : Int) := ⟨at_.toNat, by omega⟩
          have hjn : j < n := by omega
          have i5 : 0 ≤ (j : Int) := by omega
          have i6 : (j : Int) < (n : Int) := by omega
          obtain ⟨gd, rfl, _, _⟩ := OD.out.shape (by omega)
          obtain ⟨q, hq⟩ : ∃ q, xs[j]? = some q := ⟨_, List.getElem?_eq_getElem (by rw [OD.out.len]; exact hjn)⟩
          have cd1 := OD.out.cellAt j q hq
          have fd1 := OD.out.free j
          obtain ⟨q2, hq2⟩ : ∃ q2, q ^^^ 64 = q2 := ⟨_, rfl⟩
          have x1 := xor64 q
          have x2 : bits .xor .u8 ((q ^^^ 64).toNat : Int) 64 = ((q.toNat : Nat) : Int) := by rw [xor64, xor64_back]
          have hne : q2 ≠ q := by rw [← hq2]; exact xor64_ne q
          rw [hq2] at x1 x2
          clear hq2
          have OX : Hid (OwnB (w7.setCell ⟨gd, j, none⟩ (.int .u8 ((q2.toNat : Nat) : Int))) w1.heap.size (some ⟨gd, 0, none⟩) n cd (xs.set j q2)) := OD.out.stored j _
          have HBX : Hid (Below w1.heap.size w1 (w7.setCell ⟨gd, j, none⟩ (.int .u8 ((q2.toNat : Nat) : Int)))) := HB7.out.setCell ((OD.out.blk_lt (k := gd) rfl).1) _
          have hset : (xs.set j q2).set j q = xs := by
            rw [List.set_set]
            exact List.set_getElem?_self2 hq
          have hsx : (xs == xs.set j q2) = false := by
            refine beq_eq_false_iff_ne.2 fun e => ?_
            have e2 : xs[j]? = (xs.set j q2)[j]? := by rw [← e]
            rw [hq, List.getElem?_set_self (by rw [OD.out.len]; exact hjn)] at e2
            injection e2 with e2
            exact hne e2.symm
          have hst : (xs == xs.take j) = false := by
            refine beq_eq_false_iff_ne.2 fun e => ?_
            have e2 := congrArg List.length e
            rw [List.length_take, OD.out.len] at e2
            omega
          have HSX := Lib.hid hsx
          have HST := Lib.hid hst
          have HSET := Lib.hid hset
          obtain ⟨wx, hwx⟩ : ∃ wx, w7.setCell ⟨gd, j, none⟩ (.int .u8 ((q2.toNat : Nat) : Int)) = wx := ⟨_, rfl⟩
          rw [hwx] at OX HBX
          have HWX := Lib.hid hwx
          have i7 : (j : Int) ≤ (ca : Int) := by omega
          clear hsx hst hset hwx hq OD HB7 hne
          go_upto_region 14 with (fail)
          rw [HWX.out]
          clear cd1 fd1 x1
          go_wp2_with fail
          with_reducible refine (same_s A0 (some ⟨gd, 0, none⟩) n n ca cd xs (xs.set j q2) false HSX.out _ (RBa.out _ HBX.out) OX.out.rb (by omega) (by omega)).mono ?_
          rintro e w8 ⟨rfl, hq8⟩
          have HB8 : Hid (Below w1.heap.size w1 w8) := kp_call HBX.out hq8
          have O8 : Hid (OwnB w8 w1.heap.size (some ⟨gd, 0, none⟩) n cd (xs.set j q2)) := OX.out.below hq8 (Nat.le_refl _)
          clear hq8 HBX OX HSX
          go_wp2_with fail
          with_reducible refine (same_s A0 A0 n j ca ca xs (xs.take j) false HST.out _ (RBa.out _ HB8.out) (rb_take (RBa.out _ HB8.out) (by omega)) (by omega) (by omega)).mono ?_
          rintro e w81 ⟨rfl, hq8⟩
          have HB81 : Hid (Below w1.heap.size w1 w81) := kp_call HB8.out hq8
          have O81 : Hid (OwnB w81 w1.heap.size (some ⟨gd, 0, none⟩) n cd (xs.set j q2)) := O8.out.below hq8 (Nat.le_refl _)
          clear hq8 HB8 O8 HST
          have cd2 := O81.out.cellAt j q2 (List.getElem?_set_self (by rw [RBa.out _ (Below.refl _ _) |>.1]; exact hjn))
          have fd2 := O81.out.free j
          have O82 : Hid (OwnB (w81.setCell ⟨gd, j, none⟩ (.int .u8 ((q.toNat : Nat) : Int))) w1.heap.size (some ⟨gd, 0, none⟩) n cd xs) := by
            have h := O81.out.stored j q
            rw [HSET.out] at h
            exact h
          have HB82 : Hid (Below w1.heap.size w1 (w81.setCell ⟨gd, j, none⟩ (.int .u8 ((q.toNat : Nat) : Int)))) := HB81.out.setCell ((O81.out.blk_lt (k := gd) rfl).1) _
          obtain ⟨wy, hwy⟩ : ∃ wy, w81.setCell ⟨gd, j, none⟩ (.int .u8 ((q.toNat : Nat) : Int)) = wy := ⟨_, rfl⟩
          rw [hwy] at O82 HB82
          have HWY := Lib.hid hwy
          clear hwy O81 HB81 HSET
          go_upto_region 17 with (fail)
          rw [HWY.out]
          clear cd2 fd2 x2
          go_wp2_with (at_builtin; refine wpList_apn _ _ rfl rfl rfl w1.heap.size (some ⟨gd, 0, none⟩) n cd xs rfl (O82.out.alloc _) (some ⟨wy.heap.size, 0, none⟩) 1 1 [0] rfl (RN.out wy) (by omega) (by rw [World.size_alloc]; have := HB82.out.size; omega) ?_)
          intro D9 c9 w9 hown9 hg9
          have HB9 : Hid (Below w1.heap.size w1 w9) := (kp_alloc HB82.out _).grown hg9 (by rw [World.size_alloc]; have := HB82.out.size; omega) (fun g hg => (O82.out.blk_lt hg).1)
          have O9 := Lib.hid hown9
          clear hown9 hg9 O82
          go_wp2_with fail
          with_reducible refine (same_s A0 D9 n (n + 1) ca c9 xs (xs ++ [0]) false hxa.out _ (RBa.out _ HB9.out) O9.out.rb (by omega) (by omega)).mono ?_
          rintro e w10 ⟨rfl, hq10⟩
          have HB10 : Hid (Below w.heap.size w w10) := HBW1.out.trans ((kp_call HB9.out hq10).mono HBW1.out.size)
          clear hq10 HB9 O9
          go_wp2_with fail
          refine (WK.out _).mono ?_
          rintro e w11 ⟨rfl, hb11⟩
          have HB11 := Lib.hid (kp_call HB10.out hb11)
          clear hb11
          go_wp2
          go_ret
          exact ⟨rfl, HB11.out⟩
        · have i5 : ¬ at_ < (n : Int) := hb
          go_wp2_with (at_builtin; refine wpList_apn _ _ rfl rfl rfl w1.heap.size D0 n cd xs rfl (OD.out.alloc _) (some ⟨w7.heap.size, 0, none⟩) 1 1 [0] rfl (RN.out w7) (by omega) (by rw [World.size_alloc]; have := HB7.out.size; omega) ?_)
          intro D9 c9 w9 hown9 hg9
          have HB9 : Hid (Below w1.heap.size w1 w9) := (kp_alloc HB7.out _).grown hg9 (by rw [World.size_alloc]; have := HB7.out.size; omega) (fun g hg => (OD.out.blk_lt hg).1)
          have O9 := Lib.hid hown9
          clear hown9 hg9 OD
          go_wp2_with fail
          with_reducible refine (same_s A0 D9 n (n + 1) ca c9 xs (xs ++ [0]) false hxa.out _ (RBa.out _ HB9.out) O9.out.rb (by omega) (by omega)).mono ?_
          rintro e w10 ⟨rfl, hq10⟩
          have HB10 : Hid (Below w.heap.size w w10) := HBW1.out.trans ((kp_call HB9.out hq10).mono HBW1.out.size)
          clear hq10 HB9 O9
          go_wp2_with fail
          refine (WK.out _).mono ?_
          rintro e w11 ⟨rfl, hb11⟩
          have HB11 := Lib.hid (kp_call HB10.out hb11)
          clear hb11
          go_wp2
          go_ret
          exact ⟨rfl, HB11.out⟩
      · have i5 : ¬ 0 ≤ at_ := ha
        go_wp2_with (at_builtin; refine wpList_apn _ _ rfl rfl rfl w1.heap.size D0 n cd xs rfl (OD.out.alloc _) (some ⟨w7.heap.size, 0, none⟩) 1 1 [0] rfl (RN.out w7) (by omega) (by rw [World.size_alloc]; have := HB7.out.size; omega) ?_)
        intro D9 c9 w9 hown9 hg9
        have HB9 : Hid (Below w1.heap.size w1 w9) := (kp_alloc HB7.out _).grown hg9 (by rw [World.size_alloc]; have := HB7.out.size; omega) (fun g hg => (OD.out.blk_lt hg).1)
        have O9 := Lib.hid hown9
        clear hown9 hg9 OD
        go_wp2_with fail
        with_reducible refine (same_s A0 D9 n (n + 1) ca c9 xs (xs ++ [0]) false hxa.out _ (RBa.out _ HB9.out) O9.out.rb (by omega) (by omega)).mono ?_
        rintro e w10 ⟨rfl, hq10⟩
        have HB10 : Hid (Below w.heap.size w w10) := HBW1.out.trans ((kp_call HB9.out hq10).mono HBW1.out.size)
        clear hq10 HB9 O9
        go_wp2_with fail
        refine (WK.out _).mono ?_
        rintro e w11 ⟨rfl, hb11⟩
        have HB11 := Lib.hid (kp_call HB10.out hb11)
        clear hb11
        go_wp2
        go_ret
        exact ⟨rfl, HB11.out⟩
  · have fin : ∀ (b1 : (n : Int) > 4096 ∨ ¬ (n : Int) > 4096 ∧ (m : Int) > 4096 ∨ ¬ (n : Int) > 4096 ∧ ¬ (m : Int) > 4096 ∧ (k : Int) > 4096), Calls Try.prog 11 #[.agg #[.slice A0 n ca, .slice B0 m cb, .slice C0 k cc, .int .i64 at_]] w fun e w' => e = .returned (.bool true) ∧ Below w.heap.size w w' := by
      rintro (i1 | ⟨i1, i2⟩ | ⟨i1, i2, i3⟩)
      all_goals
        go_enter Try.func11, Try.ntmps11
        go_wp2_with fail
        refine (WK.out _).mono ?_
        rintro e w3 ⟨rfl, hb3⟩
        have HB3 := Lib.hid (kp_call (kp_alloc (Below.refl w.heap.size w) _) hb3)
        clear hb3
        go_wp2
        go_ret
        exact ⟨rfl, HB3.out⟩
    exact fin (by omega)
end Go.Proofs.Ytmbkbehccmadfaa
