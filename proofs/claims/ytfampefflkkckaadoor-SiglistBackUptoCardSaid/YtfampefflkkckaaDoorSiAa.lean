/-
  siglist: the document's Write; the row SiglistWrites (made by genSi2.py).
-/
import Derived.Test.YtfampefflkkckaaDoorSiZ
import Derived.Test.YtfampefflkkckaaDoorSiY
namespace Go.Proofs.YtfampefflkkckaaDoor
open Go.RowKit Go
set_option linter.unusedVariables false
set_option linter.unusedSimpArgs false
set_option maxRecDepth 100000

set_option maxHeartbeats 16000000 in
theorem dwrite_any (A : Option Addr) (n c : Nat) (ls : List LM) (w : World) (hL : ListsZ w A n ls) (hc : n ≤ c) (hcm : c ≤ 9223372036854775807) (hn : n ≤ 100000) (hm : ∀ z ∈ ls, z.n ≤ 2000000) (hT : Sizes w) :
    Calls Tryd.prog 20 #[.slice A n c] w (WritePost w (ls.map LM.lst)) := by
  have HL := Lib.hid hL
  have HT := Lib.hid hT
  have HM := Lib.hid hm
  have hl := Lib.hid hL.len
  clear hL hT hm
  go_enter Tryd.func20, Tryd.ntmps20
  go_wp2
  go_loopw [4] (fun v wl => ∃ (i : Nat), v = .int .i64 (i : Int) ∧ i ≤ n ∧ Below w.heap.size w wl ∧ Hid (∀ j z, j < i → ls[j]? = some z → rightL z.lst = true)) (fun v _ => (n - (intOf v).toNat))
  case atStart => exact ⟨0, rfl, Nat.zero_le _, Below.refl _ _, fun j z hj => absurd hj (by omega)⟩
  case round =>
    obtain ⟨i, rfl, hi, hb, hz⟩ := hrel
    rcases Nat.lt_or_ge i n with hlt | hge
    · have l1 : decide ((i : Int) < (n : Int)) = true := decide_eq_true (by omega)
      have l2 : decide (i < n) = true := decide_eq_true hlt
      obtain ⟨z, b, off, hg, hA, hbl, hr, zs, hz1⟩ := (HL.out.below hb).at_ hlt
      subst hA
      obtain ⟨za, hza⟩ : ∃ za, z.a = za := ⟨_, rfl⟩
      have r1 : wr.cell? ⟨b, off + i * 2 + 1, none⟩ = some (.slice za z.n z.c) := by rw [← hza]; exact hr 1 _ rfl
      have hzn := HM.out z (List.mem_of_getElem? hg)
      have K := Lib.hid (And.intro hb (And.intro hz (And.intro hg (And.intro hz1 hr))))
      obtain ⟨wo, hwo⟩ : ∃ wo, wo = wr := ⟨_, rfl⟩
      subst hwo
      clear hb hz hg hr hz1 hbl hi
      by_cases hz0 : z.n = 0
      · have u1 : ((z.n : Int) == 0) = true := by rw [hz0]; rfl
        have u2 : (z.n == 0) = true := by rw [hz0]; rfl
        have HNO : Hid (rightL z.lst = false) := by
          have h1 := K.out.2.2.2.1.i.len
          rw [hz0] at h1
          have h2 : z.is = [] := by rw [← K.out.2.2.2.1.e, List.eq_nil_of_length_eq_zero h1]; rfl
          show rightL (z.k, z.is) = false
          rw [h2]; rfl
        clear hz0
        go_wp2
        go_ret2
        refine ⟨?_, K.out.1⟩
        rw [if_neg (right_at K.out.2.2.1 HNO.out)]
        rfl
      have u1 : ((z.n : Int) == 0) = false := beq_eq_false_iff_ne.2 (by omega)
      have u2 : (z.n == 0) = false := beq_eq_false_iff_ne.2 hz0
      go_wp2
      clear u1 u2 r1
      go_loopw [5] (fun v wl => ∃ (k : Nat), v = .int .i64 (k : Int) ∧ k ≤ z.n ∧ Below wo.heap.size wo wl ∧ Hid (∀ q y, q < k → zs[q]? = some y → mayL z.k y.d = true ∧ y.d.length = dl (z.k, zs.map IM.itm))) (fun v _ => (z.n - (intOf v).toNat))
      case atStart => exact ⟨0, rfl, Nat.zero_le _, Below.refl _ _, fun j z hj => absurd hj (by omega)⟩
      case round =>
        obtain ⟨k, rfl, hk, hb, hq⟩ := hrel
        have hrr := range_below K.out.2.2.2.2 hb
        have r1 : wr.cell? ⟨b, off + i * 2 + 1, none⟩ = some (.slice za z.n z.c) := by rw [← hza]; exact hrr 1 _ rfl
        rcases Nat.lt_or_ge k z.n with hlt2 | hge2
        · have l3 : decide ((k : Int) < (z.n : Int)) = true := decide_eq_true (by omega)
          have l4 : decide (k < z.n) = true := decide_eq_true hlt2
          have l0 : 0 < z.n := by omega
          obtain ⟨y, b2, off2, hg2, hA2, hbl2, hr2, hy1⟩ := (K.out.2.2.2.1.i.below hb).at_ hlt2
          obtain ⟨y0, b3, off3, hg3, hA3, hbl3, hr3, hy3⟩ := (K.out.2.2.2.1.i.below hb).at_ (i := 0) l0
          rw [hA2] at hA3
          injection hA3 with hA3
          injection hA3 with e1 e2
          subst e1; subst e2
          rw [hza] at hA2
          subst hA2
          go_upto_region 9 with fail
          refine wp_nm fun W2 hW2 => ?_
          have hb2 : Below wo.heap.size wo W2 := by rw [← hW2]; exact hb
          have hbr : Below wr.heap.size wr W2 := by rw [← hW2]; exact Below.refl _ _
          have f0 : ∀ x : Up W2, x.w.cell? ⟨b, off + i * 2, none⟩ = some (.int .u8 (z.k.toNat : Int)) := Up.cell (kp_cell hbr (hrr 0 _ rfl))
          have f1 : ∀ x : Up W2, x.w.cell? ⟨b, off + i * 2 + 1, none⟩ = some (.slice (some ⟨b2, off2, none⟩) z.n z.c) := Up.cell (kp_cell hbr r1)
          have f2 : ∀ x : Up W2, x.w.cell? ⟨b2, off2 + k * 17 + 16, none⟩ = some (.slice y.a y.n y.c) := Up.cell (kp_cell hbr (data_cell hr2 hy1.o))
          have f3 : ∀ x : Up W2, x.w.cell? ⟨b2, off2 + 16, none⟩ = some (.slice y0.a y0.n y0.c) := Up.cell (kp_cell hbr (by
            have := data_cell hr3 hy3.o
            rw [show off2 + 0 * 17 + 16 = off2 + 16 by omega] at this
            exact this))
          have C : Hid (∀ x : Up W2, Calls Tryd.prog 30 #[.int .u8 (z.k.toNat : Int), .slice y.a y.n y.c] x.w fun e w' => e = .returned (.bool (mayL z.k y.d)) ∧ Below x.w.heap.size x.w w') := fun x =>
            may_any z.k y.a y.n y.c y.d x.w (hy1.r.below (kp_call hbr x.b)) hy1.c hy1.m (HT.out.below' (kp_call (kp_call K.out.1 hb2) x.b))
          have K2 := Lib.hid (And.intro hb2 (And.intro hq (And.intro hg2 hy1.r.1)))
          have D : Hid (dl (z.k, zs.map IM.itm) = y0.n) := by
            show ((zs.map IM.itm).headD ([], [])).2.length = y0.n
            match zs, hg3 with
            | v :: vs, h1 =>
              injection h1 with h1
              subst h1
              exact hy3.r.1
          have HNO : Hid ((mayL z.k y.d = false ∨ y.n ≠ y0.n) → rightL z.lst = false) := fun h => by
            show rightL (z.k, z.is) = false
            rw [← K.out.2.2.2.1.e]
            refine rightL_no z.k _ y.itm (List.mem_map_of_mem (List.mem_of_getElem? hg2)) (h.imp id fun h => ?_)
            rw [D.out]
            show y.d.length ≠ y0.n
            rw [hy1.r.1]; exact h
          clear hW2 hb2 hbr hb hq hg2 hg3 hr2 hr3 hy1 hy3 hbl2 hbl3 hrr r1 hk
          obtain ⟨v, hv⟩ : ∃ v, mayL z.k y.d = v := ⟨_, rfl⟩
          rw [hv] at C
          have HV := Lib.hid hv
          clear hv
          cases v with
          | false =>
            refine wp_region_up (by kernel_rfl) (by kernel_rfl) ?_
            repeat (go_big_quiet_step (first | (go_at_call 30; with_reducible exact Up.calls (C.out _))))
            refine wpQuiet_nil ?_
            rintro _ ⟨x, rfl⟩
            go_wp2
            go_ret2
            refine ⟨?_, kp_call (kp_call K.out.1 K2.out.1) x.b⟩
            rw [if_neg (right_at K.out.2.2.1 (HNO.out (.inl HV.out)))]
            rfl
          | true =>
            by_cases hd : y.n = y0.n
            · have d1 : ((y.n : Int) != (y0.n : Int)) = false := by rw [hd]; simp
              have d2 : (y.n != y0.n) = false := by rw [hd]; simp
              have d3 : ((y.n : Int) == (y0.n : Int)) = true := by rw [hd]; simp
              have d4 : (y.n == y0.n) = true := by rw [hd]; simp
              have HD := Lib.hid hd
              clear hd
              refine wp_region_up (by kernel_rfl) (by kernel_rfl) ?_
              repeat (go_big_quiet_step (first | (go_at_call 30; with_reducible exact Up.calls (C.out _))))
              refine wpQuiet_nil ?_
              rintro _ ⟨x, rfl⟩
              have l5 : IntKind.i64.wrap ((k : Int) + 1) = ((k + 1 : Nat) : Int) := IntWalk.i64_in _ (by omega)
              go_wp2
              go_roundw
              case rel =>
                refine ⟨k + 1, rfl, hlt2, kp_call K2.out.1 x.b, fun q v hq hv => ?_⟩
                rcases Nat.lt_or_ge q k with h | h
                · exact K2.out.2.1 q v h hv
                · obtain rfl : q = k := by omega
                  rw [K2.out.2.2.1] at hv
                  injection hv with hv
                  subst hv
                  exact ⟨HV.out, by rw [D.out, K2.out.2.2.2, HD.out]⟩
              case measure => simp [intOf]; omega
            · have d1 : ((y.n : Int) != (y0.n : Int)) = true := bne_iff_ne.2 (by omega)
              have d2 : (y.n != y0.n) = true := bne_iff_ne.2 hd
              have d3 : ((y.n : Int) == (y0.n : Int)) = false := beq_eq_false_iff_ne.2 (by omega)
              have d4 : (y.n == y0.n) = false := beq_eq_false_iff_ne.2 hd
              have HD := Lib.hid hd
              clear hd
              refine wp_region_up (by kernel_rfl) (by kernel_rfl) ?_
              repeat (go_big_quiet_step (first | (go_at_call 30; with_reducible exact Up.calls (C.out _))))
              refine wpQuiet_nil ?_
              rintro _ ⟨x, rfl⟩
              go_wp2
              go_ret2
              refine ⟨?_, kp_call (kp_call K.out.1 K2.out.1) x.b⟩
              rw [if_neg (right_at K.out.2.2.1 (HNO.out (.inr HD.out)))]
              rfl
        · have hkm : k = z.n := by omega
          have l3 : decide ((k : Int) < (z.n : Int)) = false := decide_eq_false (by omega)
          have l4 : decide (k < z.n) = false := decide_eq_false (by omega)
          have l5 : IntKind.i64.wrap ((i : Int) + 1) = ((i + 1 : Nat) : Int) := IntWalk.i64_in _ (by omega)
          have HB2 := Lib.hid (kp_call K.out.1 hb)
          have YES : Hid (rightL z.lst = true) := by
            show rightL (z.k, z.is) = true
            rw [← K.out.2.2.2.1.e]
            refine rightL_all z.k _ (fun e => hz0 ?_) fun y hy => ?_
            · have h1 := congrArg List.length e
              rw [List.length_map, K.out.2.2.2.1.i.len] at h1
              exact h1
            · obtain ⟨v, hv, rfl⟩ := List.mem_map.1 hy
              obtain ⟨j, hj⟩ := List.getElem?_of_mem hv
              exact hq j v (by rw [hkm, ← K.out.2.2.2.1.i.len]; exact (List.getElem?_eq_some_iff.1 hj).1) hj
          clear hb hq hge2 hkm hrr hz0
          go_wp2
          go_roundw
          case rel =>
            refine ⟨i + 1, rfl, hlt, HB2.out, fun q v hq hv => ?_⟩
            rcases Nat.lt_or_ge q i with h | h
            · exact K.out.2.1 q v h hv
            · obtain rfl : q = i := by omega
              rw [K.out.2.2.1] at hv
              injection hv with hv
              subst hv
              exact YES.out
          case measure => simp [intOf]; omega
    · have hin : i = n := by omega
      have l1 : decide ((i : Int) < (n : Int)) = false := decide_eq_false (by omega)
      have l2 : decide (i < n) = false := decide_eq_false (by omega)
      have HRT : Hid ((ls.map LM.lst).all rightL = true ∧ ∀ (j : Nat) (z : LM), ls[j]? = some z → rightL z.lst = true) := by
        have h1 : ∀ (j : Nat) (z : LM), ls[j]? = some z → rightL z.lst = true := fun j z h => hz j z (by rw [hin, ← hl.out]; exact (List.getElem?_eq_some_iff.1 h).1) h
        refine ⟨List.all_eq_true.2 fun x hx => ?_, h1⟩
        obtain ⟨z, hz, rfl⟩ := List.mem_map.1 hx
        obtain ⟨j, hj⟩ := List.getElem?_of_mem hz
        exact h1 j z hj
      have HB := Lib.hid hb
      clear hz hb hge hi hin
      go_wp2
      clear l1 l2
      go_loopw [6, 7] (fun v u wl => ∃ (i : Nat) (A' : Option Addr) (n' c' : Nat), v = .slice A' n' c' ∧ u = .int .i64 (i : Int) ∧ i ≤ n ∧ n' ≤ 65536 ∧ Hid (OwnB wl w.heap.size A' n' c' (allB ((ls.take i).map LM.lst)) ∧ Below w.heap.size w wl)) (fun _ u _ => (n - (intOf u).toNat))
      case atStart => exact ⟨0, none, 0, 0, rfl, rfl, Nat.zero_le _, by omega, OwnB.nil _ _, HB.out⟩
      case round =>
        obtain ⟨i, A', n', c', rfl, rfl, hi, hn', hS⟩ := hrel
        rcases Nat.lt_or_ge i n with hlt | hge
        · have l3 : decide ((i : Int) < (n : Int)) = true := decide_eq_true (by omega)
          have l4 : decide (i < n) = true := decide_eq_true hlt
          obtain ⟨z, b, off, hg, hA, hbl, hr, zs, hz1⟩ := HL.out.at_ hlt
          subst hA
          have hrr := range_below hr hS.2
          have r0 : wr.cell? ⟨b, off + i * 2, none⟩ = some (.int .u8 (z.k.toNat : Int)) := hrr 0 _ rfl
          have r1 : wr.cell? ⟨b, off + i * 2 + 1, none⟩ = some (.slice z.a z.n z.c) := hrr 1 _ rfl
          have hzn := HM.out z (List.mem_of_getElem? hg)
          have hrt := HRT.out.2 i z hg
          have C := Lib.hid (dbytesOf_any z.k z.a z.n z.c zs wr (hz1.i.below hS.2) (by rw [hz1.e]; exact hrt) hz1.c hz1.m hzn)
          rw [hz1.e, show (z.k, z.is) = z.lst from rfl] at C
          have hlst : (lstB z.lst).length ≤ 8208 * 2000000 + 28 := by
            have h1 : Own16 z.lst := fun y hy => by
              have hy : y ∈ z.is := hy
              rw [← hz1.e] at hy
              obtain ⟨v, hv, rfl⟩ := List.mem_map.1 hy
              exact (hz1.i.each v hv).o
            have h2 := lst_len hrt h1
            have h3 := right_dl hrt
            have h4 : z.lst.2.length ≤ 2000000 := by show z.is.length ≤ _; rw [lm_n hz1]; exact hzn
            have h5 : (16 + dl z.lst) * z.lst.2.length ≤ 8208 * 2000000 := Nat.mul_le_mul (by omega) h4
            omega
          have K := Lib.hid (And.intro hS hg)
          clear hg hr hrr hz1 hbl hzn hrt hS
          go_wp2_with fail
          refine C.out.mono ?_
          clear C
          rintro e w3 ⟨A3, n3, c3, rfl, ho3, hb3⟩
          have hl3 := ho3.len
          have B3 := Lib.hid (kp_call K.out.1.2 hb3)
          have O3 := Lib.hid (K.out.1.1.below hb3 (Nat.le_refl _))
          have R3 := Lib.hid ho3.rb
          clear hb3 ho3 r0 r1
          obtain ⟨pre, hpre⟩ : ∃ pre, allB ((ls.take i).map LM.lst) = pre := ⟨_, rfl⟩
          obtain ⟨tl, htl⟩ : ∃ tl, lstB z.lst = tl := ⟨_, rfl⟩
          rw [hpre] at O3
          rw [htl] at R3
          have HPT : Hid (allB ((ls.take (i + 1)).map LM.lst) = pre ++ tl) := by unfold Hid; rw [allB_take ls i z K.out.2, hpre, htl]
          rw [htl] at hl3 hlst
          clear hpre htl
          go_wp2_with (at_builtin; refine wpList_apn _ _ rfl rfl rfl w.heap.size A' n' c' _ rfl O3.out A3 n3 c3 _ rfl R3.out (by omega) B3.out.size ?_)
          intro A4 c4 W4 ho4 hg4
          rw [← HPT.out] at ho4
          have hl4 := ho4.len
          have hle := allB_take_le ls (i + 1)
          have K4 := Lib.hid (And.intro ho4 (B3.out.grown hg4 B3.out.size (fun k e => (O3.out.blk_lt e).1)))
          obtain ⟨n4, hn4⟩ : ∃ n4, n' + n3 = n4 := ⟨_, rfl⟩
          rw [hn4] at K4 hl4 ⊢
          clear ho4 hg4 B3 O3 R3 hn4 hl3 hlst
          by_cases hbig : 65536 < n4
          · have g1 : decide ((n4 : Int) > (65536 : Int)) = true := decide_eq_true (by omega)
            have g2 : decide ((65536 : Int) < (n4 : Int)) = true := decide_eq_true (by omega)
            have g3 : decide (65536 < n4) = true := decide_eq_true hbig
            have HBIG : Hid (65536 < (allB (ls.map LM.lst)).length) := by unfold Hid; omega
            clear hbig hl4 hle
            go_wp2
            go_ret2
            refine ⟨?_, K4.out.2⟩
            rw [if_pos HRT.out.1, if_pos HBIG.out]
            rfl
          · have g1 : decide ((n4 : Int) > (65536 : Int)) = false := decide_eq_false (by omega)
            have g2 : decide ((65536 : Int) < (n4 : Int)) = false := decide_eq_false (by omega)
            have g3 : decide (65536 < n4) = false := decide_eq_false hbig
            clear hl4 hle
            have l5 : IntKind.i64.wrap ((i : Int) + 1) = ((i + 1 : Nat) : Int) := IntWalk.i64_in _ (by omega)
            go_wp2
            go_roundw
            case rel => exact ⟨i + 1, A4, n4, c4, rfl, rfl, hlt, by omega, K4.out.1, K4.out.2⟩
            case measure => simp [intOf]; omega
        · obtain rfl : n = i := by omega
          have l3 : decide ((n : Int) < (n : Int)) = false := decide_eq_false (by omega)
          have l4 : decide (n < n) = false := decide_eq_false (by omega)
          have K := Lib.hid hS
          clear hS
          go_wp2
          go_ret2
          refine ⟨?_, K.out.2⟩
          have h1 := K.out.1
          rw [List.take_of_length_le (by rw [hl.out]; exact Nat.le_refl _)] at h1
          rw [if_pos HRT.out.1, if_neg (by rw [h1.len]; omega)]
          exact ⟨A', n', c', rfl, h1⟩
theorem dwrite_r {w W : World} {A : Option Addr} {n c : Nat} {l : List Lst} (hL : ListsR w A n c l) (hl : Lim l 2000000 1000000000) (hn : n ≤ 100000) (hb : Below w.heap.size w W) (hT : Sizes W) :
    Calls Tryd.prog 20 #[.slice A n c] W (WritePost W l) := by
  obtain ⟨ls, rfl, h2, h3, h4⟩ := hL
  exact dwrite_any A n c ls W (h2.below hb) h3 h4 hn (lim_n h2 hl) hT
/-- The bytes, or what goes wrong. -/
def wErr (l : List Lst) : Int := if l.all rightL = true then (if 65536 < (allB l).length then 10 else 0) else 1
def wBytes (l : List Lst) : List UInt8 := if wErr l = 0 then allB l else []
/-- What Write answers, in one form. -/
theorem write_form {w : World} {l : List Lst} {e : Ending} {w' : World} (h : WritePost w l e w') : ∃ A n c, e = .returned (.tuple #[.slice A n c, .int .i64 (wErr l)]) ∧ RB w' A n (wBytes l) ∧ n ≤ 65536 ∧ Below w.heap.size w w' := by
  obtain ⟨h1, h2⟩ := h
  unfold wBytes wErr
  by_cases ha : l.all rightL = true
  · rw [if_pos ha] at h1 ⊢
    by_cases hb : 65536 < (allB l).length
    · rw [if_pos hb] at h1 ⊢
      exact ⟨none, 0, 0, h1, RB.nil _ _, by omega, h2⟩
    · rw [if_neg hb] at h1 ⊢
      obtain ⟨A, n, c, h3, h4⟩ := h1
      exact ⟨A, n, c, h3, h4.rb, by rw [← h4.len]; omega, h2⟩
  · rw [if_neg ha] at h1 ⊢
    exact ⟨none, 0, 0, h1, RB.nil _ _, by omega, h2⟩
set_option maxHeartbeats 8000000 in
theorem writes_row (A : Option Addr) (n c : Nat) (ls : List LM) (w : World) (B0 : IsLs w A n c 1048576 41943040 33554432 ls) (hT : Sizes w) :
    Calls Tryd.prog 4 #[.slice A n c] w fun e w' => e = .returned (.bool true) ∧ Below w.heap.size w w' := by
  have HT := Lib.hid hT
  have WK : Hid (∀ W, Below w.heap.size w W → Calls Tryd.prog 9 #[] W fun e w' => e = .returned (.bool true) ∧ Below W.heap.size W w') := fun W h => works18_any W (hT.below' h)
  have LM0 := B0.lim
  have LR := Lib.hid B0.r
  have VA := Lib.hid (vast_r (W := w) B0.r (fun x hx => Nat.le_trans (LM0.m x hx) (by omega)) (Below.refl _ _))
  clear B0 hT
  generalize ls.map LM.lst = l at *
  go_enter Tryd.func4, Tryd.ntmps4
  go_wp2_with fail
  refine VA.out.mono ?_
  clear VA
  rintro e W1 ⟨v, rfl, hv, hb1⟩
  have HB1 := Lib.hid hb1
  clear hb1
  cases v with
  | true =>
    clear hv
    go_wp2_with fail
    refine (WK.out _ HB1.out).mono ?_
    rintro e Wz ⟨rfl, hbz⟩
    have HBZ := Lib.hid (kp_call HB1.out hbz)
    clear hbz
    go_wp2
    go_ret
    exact ⟨rfl, HBZ.out⟩
  | false =>
    have hvv := hv rfl
    clear hv
    have hn := hvv.1
    have LT : Hid (Lim l 2000000 1000000000) := ⟨fun x hx => Nat.le_trans (LM0.m x hx) (by omega), fun x hx y hy => Nat.le_trans (hvv.2 x hx y hy) (by omega)⟩
    clear hvv LM0
    have TW := Lib.hid (twins_r LR.out (LT.out.more (by omega) (by omega)) (by omega) HB1.out)
    go_wp2_with fail
    refine TW.out.mono ?_
    clear TW
    rintro e W2 ⟨A2, c2, rfl, hl2, hb2⟩
    have HB2 := Lib.hid (kp_call HB1.out hb2)
    have L2 := Lib.hid hl2.r
    clear hl2 hb2
    have WR := Lib.hid (write_r L2.out LT.out (by omega) (Below.refl _ _) (HT.out.below' HB2.out))
    go_wp2_with fail
    refine WR.out.mono ?_
    clear WR
    intro e W3 hw
    obtain ⟨A3, n3, c3, rfl, ho3, hn3, hb3⟩ := write_form hw
    have R3 := Lib.hid ho3
    have B23 := Lib.hid hb3
    have HB3 := Lib.hid (kp_call HB2.out hb3)
    clear hb3 ho3 hw
    have DR := Lib.hid (dwrite_r LR.out LT.out (by omega) HB3.out (HT.out.below' HB3.out))
    go_wp2_with fail
    refine DR.out.mono ?_
    clear DR
    intro e W4 hw
    obtain ⟨A4, n4, c4, rfl, ho4, hn4, hb4⟩ := write_form hw
    have SM := Lib.hid (same_any A3 A4 n3 n4 c3 c4 _ _ W4 (R3.out.below hb4) ho4)
    rw [show (wBytes l == wBytes l) = true by simp] at SM
    have B24 := Lib.hid (kp_call B23.out hb4)
    have HB4 := Lib.hid (kp_call HB3.out hb4)
    clear hb4 ho4 hw
    obtain ⟨ev, hev⟩ : ∃ ev, wErr l = ev := ⟨_, rfl⟩
    rw [hev]
    clear hev
    have SL := Lib.hid (same_r L2.out LR.out (fun x hx => LT.out.m x hx) (by omega) B24.out HB4.out)
    rw [show decide (l = l) = true from decide_eq_true rfl] at SL
    go_wp2_with fail
    refine SM.out.mono ?_
    clear SM
    rintro e W5 ⟨rfl, rfl⟩
    go_wp2_with fail
    refine SL.out.mono ?_
    clear SL
    rintro e W6 ⟨rfl, hb6⟩
    have HB6 := Lib.hid (kp_call HB4.out hb6)
    clear hb6
    go_wp2_with fail
    refine (WK.out _ HB6.out).mono ?_
    rintro e Wz ⟨rfl, hbz⟩
    have HBZ := Lib.hid (kp_call HB6.out hbz)
    clear hbz
    go_wp2
    go_ret
    exact ⟨rfl, HBZ.out⟩
end Go.Proofs.YtfampefflkkckaaDoor
