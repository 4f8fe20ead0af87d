/-
  pe: the document's rows of a certificate table.
-/
import Derived.Test.YtjfpiidofbjdhaaDoorPfC
import Derived.Test.YtjfpiidofbjdhaaDoorPeH
namespace Go.Proofs.YtjfpiidofbjdhaaDoor
open Go.RowKit Go
set_option linter.unusedVariables false
set_option linter.unusedSimpArgs false
set_option maxRecDepth 100000
theorem kind_parts (bs : List UInt8) (a : Nat) : (cut bs (a + 4) 4 == [0, 2, 2, 0]) = (inQ bs (a + 4) 2 && inQ bs (a + 6) 2 && (decide (numQ bs (a + 4) 2 = 512) && decide (numQ bs (a + 6) 2 = 2))) := by
  by_cases h : a + 8 ≤ bs.length
  · have h0 : a + 4 < bs.length := by omega
    have h1 : a + 4 + 1 < bs.length := by omega
    have h2 : a + 4 + 2 < bs.length := by omega
    have h3 : a + 4 + 3 < bs.length := by omega
    have hc : cut bs (a + 4) 4 = [bs[a + 4], bs[a + 4 + 1], bs[a + 4 + 2], bs[a + 4 + 3]] := by
      apply List.ext_getElem?
      intro i
      by_cases hi : i < 4
      · rw [cut_get _ _ _ _ hi]
        have : i = 0 ∨ i = 1 ∨ i = 2 ∨ i = 3 := by omega
        rcases this with rfl | rfl | rfl | rfl
        · exact List.getElem?_eq_getElem h0
        · exact List.getElem?_eq_getElem h1
        · exact List.getElem?_eq_getElem h2
        · exact List.getElem?_eq_getElem h3
      · rw [List.getElem?_eq_none (by rw [cut_len _ _ _ (by omega)]; omega), List.getElem?_eq_none (by simp; omega)]
    have hc1 : cut bs (a + 4) 2 = [bs[a + 4], bs[a + 4 + 1]] := by
      have : cut bs (a + 4) 2 = (cut bs (a + 4) 4).take 2 := by unfold cut; rw [List.take_take]; rfl
      rw [this, hc]; rfl
    have hc2 : cut bs (a + 6) 2 = [bs[a + 4 + 2], bs[a + 4 + 3]] := by
      have : cut bs (a + 6) 2 = (cut bs (a + 4) 4).drop 2 := by
        unfold cut
        rw [List.drop_take, List.drop_drop]
      rw [this, hc]; rfl
    unfold numQ inQ
    rw [if_pos (by omega), if_pos (by omega), hc, hc1, hc2, decide_eq_true (by omega), decide_eq_true (by omega)]
    simp only [Bool.true_and]
    generalize bs[a + 4] = q0
    generalize bs[a + 4 + 1] = q1
    generalize bs[a + 4 + 2] = q2
    generalize bs[a + 4 + 3] = q3
    have b0 := q0.toNat_lt; have b1 := q1.toNat_lt; have b2 := q2.toNat_lt; have b3 := q3.toNat_lt
    have l1 : leN [q0, q1] = q0.toNat + 256 * q1.toNat := by simp [leN]
    have l2 : leN [q2, q3] = q2.toNat + 256 * q3.toNat := by simp [leN]
    rw [Bool.eq_iff_iff]
    simp only [beq_iff_eq, Bool.and_eq_true, decide_eq_true_eq, List.cons.injEq, and_true, true_and, l1, l2]
    constructor
    · rintro ⟨rfl, rfl, rfl, rfl⟩
      decide
    · rintro ⟨h4, h5⟩
      refine ⟨?_, ?_, ?_, ?_⟩ <;> apply UInt8.toNat_inj.1
      · show q0.toNat = 0; omega
      · show q1.toNat = 2; omega
      · show q2.toNat = 2; omega
      · show q3.toNat = 0; omega
  · have h1 : (cut bs (a + 4) 4 == [0, 2, 2, 0]) = false := by
      rw [beq_eq_false_iff_ne]
      intro e
      have := congrArg List.length e
      unfold cut at this
      rw [List.length_take, List.length_drop] at this
      simp at this
      omega
    have h2 : inQ bs (a + 6) 2 = false := by unfold inQ; simp; omega
    rw [h1, h2]
    simp
def DRowsPost (w : World) (bs : List UInt8) (at_ : Nat) (e : Ending) (w' : World) : Prop :=
  Below w.heap.size w w' ∧
  match rowsQ bs at_ with
  | none => e = .returned (.tuple #[.slice none 0 0, .int .i64 9])
  | some l => if 8 < l.length then e = .returned (.tuple #[.slice none 0 0, .int .i64 10])
    else ∃ (V : Option Addr) (m cV : Nat) (xs : List Own1), e = .returned (.tuple #[.slice V m cV, .int .i64 0]) ∧ m = xs.length ∧ xs.map (fun x => x.2.2.2) = l ∧ OwnR w' w.heap.size 22 1 V m cV (xs.map Own1.val) ∧ ∀ x ∈ xs, OwnB w' w.heap.size x.1 x.2.1 x.2.2.1 x.2.2.2
structure DR (w : World) (bs : List UInt8) (at_ a m cV : Nat) (V : Option Addr) (xs : List Own1) (W : World) : Prop where
  o : OwnR W w.heap.size 22 1 V m cV (xs.map Own1.val)
  ml : m = xs.length
  rb : ∀ x ∈ xs, RB W x.1 x.2.1 x.2.2.2
  own : ∀ x ∈ xs, OwnB W w.heap.size x.1 x.2.1 x.2.2.1 x.2.2.2
  b : Below w.heap.size w W
  q : rowsQ bs at_ = (rowsQ bs a).map ((xs.map fun x => x.2.2.2) ++ ·)
theorem DR.below {w : World} {bs : List UInt8} {at_ a m cV : Nat} {V : Option Addr} {xs : List Own1} {W W' : World} (h : DR w bs at_ a m cV V xs W) (hb : Below W.heap.size W W') : DR w bs at_ a m cV V xs W' :=
  ⟨h.o.below hb (Nat.le_refl _), h.ml, fun x hx => (h.rb x hx).below hb, fun x hx => (h.own x hx).below hb (Nat.le_refl _), kp_call h.b hb, h.q⟩
theorem drows_step {w : World} {bs : List UInt8} {at_ a m cV en : Nat} {V : Option Addr} {xs : List Own1} {W W4 : World} (h : DR w bs at_ a m cV V xs W) {A9 : Option Addr} {n9 c9 : Nat} {b9 : List UInt8} (ho9 : OwnB W w.heap.size A9 n9 c9 b9) (hy : rowsQ bs a = (rowsQ bs en).map (b9 :: ·))
    {V' : Option Addr} {c' : Nat} {o : Obj} (ho4 : OwnR W4 w.heap.size 22 1 V' (m + 1) c' (xs.map Own1.val ++ #[Value.slice A9 n9 c9].toList)) (hg4 : (W.alloc o).grownBy W4 (blk V)) : DR w bs at_ en (m + 1) c' V' (xs ++ [(A9, n9, c9, b9)]) W4 := by
  have h1 := h.below (kp_alloc (Below.refl _ _) o)
  have h9 : OwnB (W.alloc o) w.heap.size A9 n9 c9 b9 := ho9.below (kp_alloc (Below.refl _ _) o) (Nat.le_refl _)
  have hk : ∀ {A : Option Addr} {n c : Nat} {b : List UInt8}, OwnB (W.alloc o) w.heap.size A n c b → OwnB W4 w.heap.size A n c b := fun hA => hA.kept hg4 (OwnR.ne hA.row h1.o (by decide))
  have hown : ∀ x ∈ xs ++ [(A9, n9, c9, b9)], OwnB W4 w.heap.size x.1 x.2.1 x.2.2.1 x.2.2.2 := by
    intro x hx
    rcases List.mem_append.1 hx with hx | hx
    · exact hk (h1.own x hx)
    · rw [List.mem_singleton.1 hx]; exact hk h9
  refine ⟨by rw [List.map_append]; exact ho4, by rw [List.length_append, h.ml]; rfl, fun x hx => (hown x hx).rb, hown, h1.b.grown hg4 h1.b.size (fun q hq => (h1.o.blk_lt hq).1), ?_⟩
  rw [h.q, hy, Option.map_map, List.map_append]
  congr 1
  funext t
  simp
set_option maxHeartbeats 8000000 in
theorem drows_any (A : Option Addr) (n c : Nat) (bs : List UInt8) (at_ : Nat) (w : World) (hR : RB w A n bs) (hnc : n ≤ c) (hcc : c ≤ 9223372036854775807) (hn : n ≤ 16777216) (hat : at_ ≤ 16777216) :
    Calls Tryd.prog 34 #[.slice A n c, .int .i64 (at_ : Nat)] w (DRowsPost w bs at_) := by
  have HR := Lib.hid hR
  have hbl := hR.1
  clear hR
  go_enter Tryd.func34, Tryd.ntmps34
  go_wp2_with (fail)
  go_loopw [1, 6, 7, 8, 9, 10, 11] (fun va vl v7 v8 v9 v10 v11 wl => ∃ (a m cV : Nat) (V : Option Addr) (xs : List Own1), va = .int .i64 (a : Int) ∧ vl = .slice V m cV ∧ a ≤ 16777216 ∧ m ≤ a ∧ Hid (DR w bs at_ a m cV V xs wl)) (fun va _ _ _ _ _ _ _ => n - (intOf va).toNat)
  case atStart => exact ⟨at_, 0, 0, none, [], rfl, rfl, hat, Nat.zero_le _, OwnR.nil _ _ _ _, rfl, (fun x hx => by cases hx), (fun x hx => by cases hx), Below.refl _ _, by cases rowsQ bs at_ <;> simp⟩
  case round =>
    obtain ⟨a, m, cV, V, xs, rfl, rfl, ha, hma, HK⟩ := hrel
    by_cases hlt : a < n
    · have i1 : decide ((a : Int) < (n : Int)) = true := by simp; omega
      have i1n : decide (a < n) = true := by simp; omega
      obtain ⟨p1, hp1⟩ : ∃ p, a + 4 = p := ⟨_, rfl⟩
      obtain ⟨p2, hp2⟩ : ∃ p, a + 6 = p := ⟨_, rfl⟩
      have e6 : IntKind.i64.wrap ((a : Int) + 4) = (p1 : Int) := by rw [IntWalk.i64_in _ (by omega)]; omega
      have e7 : IntKind.i64.wrap ((a : Int) + 6) = (p2 : Int) := by rw [IntWalk.i64_in _ (by omega)]; omega
      have C := Lib.hid (fun W (hb : Below w.heap.size w W) (hr : ReadR W (some ⟨wr.heap.size, 0, none⟩) [.int .i64 (a : Nat), .int .i64 4, .int .i64 (p1 : Nat), .int .i64 2, .int .i64 (p2 : Nat), .int .i64 2]) => dnums_any A n c bs (some ⟨wr.heap.size, 0, none⟩) 3 3 [(a, 4), (p1, 2), (p2, 2)] W (HR.out.below hb) hnc hcc hn hr rfl (by decide) (by intro x hx; simp at hx; rcases hx with rfl | rfl | rfl <;> (refine ⟨by simp; omega, ?_⟩; first | exact .inr rfl | exact .inl rfl)))
      have HB := Lib.hid HK.out.b
      have hkp := kind_parts bs a
      rw [hp1, hp2] at hkp
      have hrn : ∀ h9 : rowsQ bs a = none, rowsQ bs at_ = none := fun h9 => by rw [HK.out.q, h9]; rfl
      have HRN := Lib.hid hrn
      have hrok : rowOk bs a = (inQ bs a 4 && (decide (9 ≤ numQ bs a 4) && decide (padQ bs a ≤ bs.length - a)) && (inQ bs p1 2 && inQ bs p2 2 && (decide (numQ bs p1 2 = 512) && decide (numQ bs p2 2 = 2)))) := by unfold rowOk; rw [hp1, hkp]
      clear hrn hkp
      go_upto_region 4 with (go_at_call 32; (with_reducible refine (C.out _ (kp_alloc HB.out _) (readR_lit (has_new _ _))).mono ?_); rintro e W1 ⟨⟨X, mx, cx, rfl, hx⟩, hb1⟩; have HX := Lib.hid (And.intro hx (kp_call (kp_alloc (Below.refl wr.heap.size wr) _) hb1)); clear C hx hb1)
      have HK1 := Lib.hid (HK.out.below HX.out.2)
      have BEL := Lib.hid HK1.out.b
      have hall : allIn bs [(a, 4), (p1, 2), (p2, 2)] = (inQ bs a 4 && (inQ bs p1 2 && inQ bs p2 2)) := by simp [allIn]
      have hd4 := numQ_lt4 bs a
      have hd1 := numQ_lt2 bs p1
      have hd2 := numQ_lt2 bs p2
      clear HK HB
      cases hq : allIn bs [(a, 4), (p1, 2), (p2, 2)] with
      | false =>
        rw [hq] at hall
        have hno : rowsQ bs at_ = none := HRN.out (rowsQ_no (by omega) (by
          rw [hrok]
          revert hall
          generalize inQ bs a 4 = b1
          generalize inQ bs p1 2 = b2
          generalize inQ bs p2 2 = b3
          cases b1 <;> cases b2 <;> cases b3 <;> simp))
        clear hall hq HX hrok
        have HNO := Lib.hid hno
        clear hno
        go_wp2_with (fail)
        go_ret2
        exact ⟨BEL.out, by rw [HNO.out]; rfl⟩
      | true =>
        rw [hq] at hall
        obtain ⟨hx, _⟩ := HX.out
        obtain ⟨hm3, hrd⟩ := hx hq
        have hmx : mx = 3 := hm3
        subst hmx
        have hrr := hrd.reads
        obtain ⟨b, off, rfl, _, k0⟩ := hrr.at_ (j := 0) rfl
        obtain ⟨b', off', e, _, k1⟩ := hrr.at_ (j := 1) rfl
        cases e
        obtain ⟨b', off', e, _, k2⟩ := hrr.at_ (j := 2) rfl
        cases e
        unfold numV at k0 k1 k2
        dsimp only at k0 k1 k2
        obtain ⟨h1, h2, h3⟩ : inQ bs a 4 = true ∧ inQ bs p1 2 = true ∧ inQ bs p2 2 = true := by
          have h9 := hall.symm
          simp only [Bool.and_eq_true] at h9
          exact h9
        rw [h1, h2, h3] at hrok
        simp only [Bool.true_and] at hrok
        obtain ⟨x0, hx0⟩ : ∃ x, numQ bs a 4 = x := ⟨_, rfl⟩
        obtain ⟨x1, hx1⟩ : ∃ x, numQ bs p1 2 = x := ⟨_, rfl⟩
        obtain ⟨x2, hx2⟩ : ∃ x, numQ bs p2 2 = x := ⟨_, rfl⟩
        have hpad : padQ bs a = (x0 + 7) / 8 * 8 := by unfold padQ; rw [hx0]
        rw [hx0, hx1, hx2] at hrok
        rw [hx0] at k0 hd4
        rw [hx1] at k1 hd1
        rw [hx2] at k2 hd2
        have k0' : W1.cell? ⟨b, off, none⟩ = some (.int .i64 (x0 : Nat)) := k0
        have HX0 := Lib.hid hx0
        clear hall hq hrd hm3 hx HX k0 hrr h1 h2 h3 hx0 hx1 hx2 hp1 hp2
        by_cases g1 : x0 < 9
        · have t1 : decide ((x0 : Int) < 9) = true := by simp; omega
          have t1n : decide (x0 < 9) = true := by simp; omega
          have hno : rowsQ bs at_ = none := HRN.out (rowsQ_no (by omega) (by rw [hrok, decide_eq_false (by omega : ¬ 9 ≤ x0)]; rfl))
          clear hrok g1
          have HNO := Lib.hid hno
          clear hno
          go_wp2_with (fail)
          go_ret2
          exact ⟨BEL.out, by rw [HNO.out]; rfl⟩
        have t1 : decide ((x0 : Int) < 9) = false := by simp; omega
        have t1n : decide (x0 < 9) = false := by simp; omega
        by_cases g2 : x1 = 512
        rotate_left
        · have t2 : ((x1 : Int) != 512) = true := by simp; omega
          have hno : rowsQ bs at_ = none := HRN.out (rowsQ_no (by omega) (by rw [hrok, decide_eq_false g2]; simp))
          clear hrok g1 g2
          have HNO := Lib.hid hno
          clear hno
          go_wp2_with (fail)
          go_ret2
          exact ⟨BEL.out, by rw [HNO.out]; rfl⟩
        have t2 : ((x1 : Int) != 512) = false := by rw [g2]; rfl
        by_cases g3 : x2 = 2
        rotate_left
        · have t3 : ((x2 : Int) != 2) = true := by simp; omega
          have hno : rowsQ bs at_ = none := HRN.out (rowsQ_no (by omega) (by rw [hrok, decide_eq_false g3]; simp))
          clear hrok g1 g2 g3
          have HNO := Lib.hid hno
          clear hno
          go_wp2_with (fail)
          go_ret2
          exact ⟨BEL.out, by rw [HNO.out]; rfl⟩
        have t3 : ((x2 : Int) != 2) = false := by rw [g3]; rfl
        rw [decide_eq_true (by omega : 9 ≤ x0), decide_eq_true g2, decide_eq_true g3] at hrok
        simp only [Bool.true_and, Bool.and_true] at hrok
        clear g2 g3
        obtain ⟨pd, hpd⟩ : ∃ pd, (x0 + 7) / 8 * 8 = pd := ⟨_, rfl⟩
        rw [hpd] at hpad
        rw [hpad] at hrok
        obtain ⟨en, hen⟩ : ∃ en, a + pd = en := ⟨_, rfl⟩
        obtain ⟨pa, hpa⟩ : ∃ pa, a + 8 = pa := ⟨_, rfl⟩
        obtain ⟨xk, hxk⟩ : ∃ xk, x0 - 8 = xk := ⟨_, rfl⟩
        have e8 : IntKind.i64.wrap ((a : Int) + 8) = (pa : Int) := by rw [IntWalk.i64_in _ (by omega)]; omega
        have e9 : IntKind.i64.wrap ((x0 : Int) - 8) = (xk : Int) := by rw [IntWalk.i64_in _ (by omega)]; omega
        have e10 : IntKind.i64.wrap ((x0 : Int) + 7) = (x0 : Int) + 7 := IntWalk.i64_in _ (by omega)
        obtain ⟨qd, hqd⟩ : ∃ qd, (x0 + 7) / 8 = qd := ⟨_, rfl⟩
        have e11 : ((x0 : Int) + 7).tdiv 8 = (qd : Int) := by rw [Int.tdiv_eq_ediv_of_nonneg (by omega)]; omega
        have e12 : IntKind.i64.wrap (qd : Int) = (qd : Int) := IntWalk.i64_in _ (by omega)
        have e13 : IntKind.i64.wrap ((qd : Int) * 8) = (pd : Int) := by rw [IntWalk.i64_in _ (by omega)]; omega
        have e14 : IntKind.i64.wrap ((a : Int) + (pd : Int)) = (en : Int) := by rw [IntWalk.i64_in _ (by omega)]; omega
        have hxp : x0 ≤ pd ∧ pd ≤ x0 + 7 := by omega
        clear hqd
        by_cases g4 : a + x0 ≤ n
        rotate_left
        · have CN := Lib.hid (refCut_not A n c pa xk W1 (by omega) (by omega) (by omega) (by omega) (by omega) (by simp [inB]; omega))
          have hno : rowsQ bs at_ = none := HRN.out (rowsQ_no (by omega) (by rw [hrok, decide_eq_false (by omega)]; rfl))
          have HNO := Lib.hid hno
          clear hrok g1 g4 hno hpad
          go_wp2_with (go_at_call 38; (with_reducible refine CN.out.mono ?_); rintro e W2 ⟨rfl, rfl⟩; clear CN)
          go_ret2
          exact ⟨BEL.out, by rw [HNO.out]; rfl⟩
        have CY := Lib.hid (refCut_ok A n c bs pa xk W1 (HR.out.below BEL.out) hnc hcc (by omega) (by omega))
        have hcl := cut_len bs pa xk (by omega)
        go_upto_region 8 with (go_at_call 38; (with_reducible refine CY.out.mono ?_); rintro e W2 ⟨A9, n9, c9, rfl, ho9, hb9⟩; have j0 : W2.cell? ⟨b, off, none⟩ = some (.int .i64 (x0 : Nat)) := kp_cell hb9 k0'; have H9 := Lib.hid (And.intro ho9 hb9); clear CY ho9 hb9)
        have HK2 := Lib.hid (HK1.out.below H9.out.2)
        have HOB := Lib.hid (H9.out.1.lower BEL.out.size)
        have BEL2 := Lib.hid HK2.out.b
        by_cases g5 : en ≤ n
        rotate_left
        · have t5 : decide ((n : Int) < (en : Int)) = true := by simp; omega
          have t5n : decide (n < en) = true := by simp; omega
          have hno : rowsQ bs at_ = none := HRN.out (rowsQ_no (by omega) (by rw [hrok, decide_eq_false (by omega)]; rfl))
          have HNO := Lib.hid hno
          clear hrok g1 g4 g5 hno hpad k0' k1 k2 j0
          go_wp2_with (fail)
          go_ret2
          exact ⟨BEL2.out, by rw [HNO.out]; rfl⟩
        have t5 : decide ((n : Int) < (en : Int)) = false := by simp; omega
        have t5n : decide (n < en) = false := by simp; omega
        rw [decide_eq_true (by omega)] at hrok
        obtain ⟨s0, hs0⟩ : ∃ s, a + x0 = s := ⟨_, rfl⟩
        have e15 : IntKind.i64.wrap ((a : Int) + (x0 : Int)) = (s0 : Int) := by rw [IntWalk.i64_in _ (by omega)]; omega
        have HOK := Lib.hid (And.intro hrok (And.intro hpad (And.intro hen (And.intro hpa (And.intro hxk (And.intro hs0 hcl))))))
        have hse : s0 ≤ en := by omega
        have hx9 : a + 9 ≤ en := by omega
        clear hrok hpad hpd hpa hxk hs0 hcl k0' k1 k2 g1 HK1 BEL
        go_wp2_with (fail)
        clear j0
        go_loopw [11] (fun vi wl => ∃ j : Nat, vi = .int .i64 (j : Int) ∧ s0 ≤ j ∧ j ≤ en ∧ Hid (∀ t, s0 ≤ t → t < j → bs[t]? = some 0) ∧ wl = W2) (fun vi _ => en - (intOf vi).toNat)
        case atStart => exact ⟨s0, rfl, Nat.le_refl _, hse, Lib.hid (fun t h1 h2 => by omega), rfl⟩
        case round =>
          obtain ⟨j, rfl, hj1, hj2, HZ, rfl⟩ := hrel
          by_cases hje : j < en
          · have u1 : decide ((j : Int) < (en : Int)) = true := by simp; omega
            have u1n : decide (j < en) = true := by simp; omega
            have e16 : IntKind.i64.wrap ((j : Int) + 1) = (j : Int) + 1 := IntWalk.i64_in _ (by omega)
            have i2 : (j : Int) < (n : Int) := by omega
            have i2n : j < n := by omega
            obtain ⟨ab, ao, q, rfl, _, hq, kq⟩ := (HR.out.below BEL2.out).at_ (k := j) (by omega)
            by_cases hq0 : q = 0
            · have u2 : ((q.toNat : Int) != 0) = false := by rw [hq0]; rfl
              have u2n : q.toNat = 0 := by rw [hq0]; rfl
              have HN : Hid (∀ t, s0 ≤ t → t < j + 1 → bs[t]? = some 0) := Lib.hid (fun t h1 h2 => by
                by_cases e : t = j
                · rw [e, hq, hq0]
                · exact HZ.out t h1 (by omega))
              clear hq hq0 HZ
              go_wp2_with (fail)
              go_roundw
              case rel => exact ⟨j + 1, by go_num, by omega, by omega, HN, by simp⟩
              case measure => simp [intOf]; omega
            · have u2 : ((q.toNat : Int) != 0) = true := by
                have : q.toNat ≠ 0 := fun e => hq0 (UInt8.toNat_inj.1 e)
                simp; omega
              have u2n : ¬ q.toNat = 0 := fun e => hq0 (UInt8.toNat_inj.1 e)
              have hno : rowsQ bs at_ = none := HRN.out (rowsQ_no (by omega) (by
                have hf : fillB bs a = false := by
                  unfold fillB
                  rw [HOK.out.2.1, HX0.out, HOK.out.2.2.2.2.2.1]
                  have h2 : (cut bs s0 (pd - x0))[j - s0]? = some q := by
                    rw [cut_get _ _ _ _ (by have := HOK.out.2.2.1; have := HOK.out.2.2.2.2.2.1; omega), show s0 + (j - s0) = j by omega, hq]
                  cases h9 : (cut bs s0 (pd - x0)).all fun q => q == 0 with
                  | false => rfl
                  | true =>
                    have := List.all_eq_true.1 h9 q (List.mem_of_getElem? h2)
                    exact absurd (by simpa using this) hq0
                rw [hf, Bool.and_false]))
              have HNO := Lib.hid hno
              clear hq hq0 HZ hno
              go_wp2_with (fail)
              go_ret2
              exact ⟨BEL2.out, by rw [HNO.out]; rfl⟩
          · have u1 : decide ((j : Int) < (en : Int)) = false := by simp; omega
            have u1n : decide (j < en) = false := by simp; omega
            obtain rfl : j = en := by omega
            have hf : fillB bs a = true := by
              unfold fillB
              rw [HOK.out.2.1, HX0.out, HOK.out.2.2.2.2.2.1, List.all_eq_true]
              intro q hq
              obtain ⟨t, ht⟩ := List.getElem?_of_mem hq
              have htl : t < pd - x0 := by
                rcases Nat.lt_or_ge t (pd - x0) with h | h
                · exact h
                · rw [List.getElem?_eq_none (by unfold cut; rw [List.length_take]; omega)] at ht; cases ht
              rw [cut_get _ _ _ _ htl, HZ.out (s0 + t) (by omega) (by have := HOK.out.2.2.1; have := HOK.out.2.2.2.2.2.1; omega)] at ht
              rw [← Option.some.inj ht]
              rfl
            have hyes := rowsQ_yes (bs := bs) (a := a) (by omega) HOK.out.1 hf
            rw [HOK.out.2.1, HX0.out, HOK.out.2.2.1, HOK.out.2.2.2.1, HOK.out.2.2.2.2.1] at hyes
            have hn9 : n9 = xk := by have h1 := H9.out.1.len; rw [HOK.out.2.2.2.2.2.2] at h1; omega
            have HY := Lib.hid (And.intro hyes hn9)
            have hwz : w.heap.size ≤ wr.heap.size := HK2.out.b.size
            clear hf hyes hn9 HZ
            go_wp2_with (at_builtin; refine wpList_appL bss_rowP _ _ rfl rfl rfl w.heap.size V m cV _ rfl (HK2.out.o.alloc _) _ 1 1 #[.slice A9 n9 c9] (0, 0) rfl (has_new _ _) rfl (by intro u hu; simp at hu; subst hu; rfl) (by unfold maxLen; omega) (by omega) (by simp; omega) ?_; intro V' c' w4 ho4 hg4; have HN := Lib.hid (drows_step HK2.out HOB.out HY.out.1 ho4 hg4); clear ho4 hg4 HK2 HY)
            go_roundw
            case rel => exact ⟨j, m + 1, c', V', _, rfl, by go_num, by omega, by omega, HN⟩
            case measure => simp [intOf]; omega
    · have i1 : decide ((a : Int) < (n : Int)) = false := by simp; omega
      have i1n : decide (a < n) = false := by simp; omega
      have hq := HK.out.q
      rw [rowsQ_end (a := a) (by omega)] at hq
      have hq2 : rowsQ bs at_ = some (xs.map fun x => x.2.2.2) := by rw [hq]; simp
      have HQ := Lib.hid hq2
      have HM := Lib.hid HK.out.ml
      clear hq hq2
      by_cases h8 : 8 < m
      · have t8 : decide ((8 : Int) < (m : Int)) = true := by simp; omega
        have t8n : decide (8 < m) = true := by simp; omega
        have H8 : Hid (8 < (xs.map fun x => x.2.2.2).length) := by rw [List.length_map, ← HM.out]; exact h8
        clear h8
        go_wp2_with (fail)
        go_ret2
        refine ⟨HK.out.b, ?_⟩
        rw [HQ.out]
        dsimp only
        rw [if_pos H8.out]
        rfl
      · have t8 : decide ((8 : Int) < (m : Int)) = false := by simp; omega
        have t8n : decide (8 < m) = false := by simp; omega
        have H8 : Hid (¬ 8 < (xs.map fun x => x.2.2.2).length) := by rw [List.length_map, ← HM.out]; exact h8
        clear h8
        go_wp2_with (fail)
        go_ret2
        refine ⟨HK.out.b, ?_⟩
        rw [HQ.out]
        dsimp only
        rw [if_neg H8.out]
        exact ⟨V, m, cV, xs, rfl, HM.out, rfl, HK.out.o, HK.out.own⟩
end Go.Proofs.YtjfpiidofbjdhaaDoor
