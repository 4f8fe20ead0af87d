/-
  rsa: the statement RsaTurned.
-/
import Derived.Test.YtbplchpbaonadaaDoorRv
import Derived.Laws.Bits128
namespace Go.Proofs.YtbplchpbaonadaaDoor
open Go.RowKit Go
set_option linter.unusedVariables false
set_option linter.unusedSimpArgs false
set_option maxRecDepth 100000
set_option exponentiation.threshold 10000
theorem beV_drop (l : List UInt8) (i : Nat) (q : UInt8) (h : l[i]? = some q) : beV (l.drop i) = q.toNat * 256 ^ (l.length - (i + 1)) + beV (l.drop (i + 1)) := by
  obtain ⟨hi, he⟩ := List.getElem?_eq_some_iff.1 h
  rw [List.drop_eq_getElem_cons hi, beV_cons, he, List.length_drop]
/-- The addition, from the last byte on. -/
def AddAt (s k t : List UInt8) (j c : Nat) : Prop := t.length = 256 ∧ c ≤ 1 ∧ beV (t.drop j) + c * 256 ^ (256 - j) = beV (s.drop j) + beV (k.drop j)
theorem add_start (s k t : List UInt8) (hs : s.length = 256) (hk : k.length = 256) (ht : t.length = 256) : AddAt s k t 256 0 := by
  refine ⟨ht, by omega, ?_⟩
  rw [List.drop_eq_nil_of_le (by omega), List.drop_eq_nil_of_le (by omega), List.drop_eq_nil_of_le (by omega)]
  simp [beV]
theorem add_next (s k t : List UInt8) (j c : Nat) (qs qk : UInt8) (hs : s.length = 256) (hk : k.length = 256) (hj : j < 256) (h : AddAt s k t (j + 1) c) (h1 : s[j]? = some qs) (h2 : k[j]? = some qk) (x : Nat) (hx : x = qs.toNat + qk.toNat + c) :
    AddAt s k (t.set j (UInt8.ofNat (x % 256))) j (x / 256) := by
  obtain ⟨a1, a2, a3⟩ := h
  have e1 := qs.toNat_lt
  have e2 := qk.toNat_lt
  refine ⟨by rw [List.length_set]; exact a1, by omega, ?_⟩
  have hd : (t.set j (UInt8.ofNat (x % 256))).drop (j + 1) = t.drop (j + 1) := by rw [List.drop_set_of_lt (by omega)]
  rw [beV_drop s j qs h1, beV_drop k j qk h2, beV_drop (t.set j (UInt8.ofNat (x % 256))) j (UInt8.ofNat (x % 256)) (by rw [List.getElem?_set_self (by omega)]), hd, List.length_set, a1, hs, hk, UInt8.toNat_ofNat']
  have hp : 256 ^ (256 - j) = 256 ^ (256 - (j + 1)) * 256 := by rw [← Nat.pow_succ]; congr 1; omega
  rw [hp, show (2 : Nat) ^ 8 = 256 from rfl, Nat.mod_mod]
  generalize 256 ^ (256 - (j + 1)) = T at *
  generalize beV (List.drop (j + 1) t) = B at *
  generalize beV (List.drop (j + 1) s) = Sd at *
  generalize beV (List.drop (j + 1) k) = Kd at *
  have h5 : x % 256 * T + x / 256 * (T * 256) = x * T := by
    have h6 := Nat.mod_add_div x 256
    have h7 : (x % 256 + 256 * (x / 256)) * T = x * T := by rw [h6]
    rw [Nat.add_mul] at h7
    rw [Nat.mul_comm T 256, ← Nat.mul_assoc, Nat.mul_comm (x / 256) 256]
    exact h7
  have h8 : x * T = qs.toNat * T + qk.toNat * T + c * T := by rw [hx, Nat.add_mul, Nat.add_mul]
  omega
theorem i64_and255 (n : Int) : bits .and .i64 n 255 = n % 256 := by
  have h127 : (BitVec.ofInt 64 255).toNat = 2 ^ 8 - 1 := by decide
  have key : (BitVec.ofInt 64 n &&& BitVec.ofInt 64 255).toNat = (n % ((2 ^ 64 : Nat) : Int)).toNat % 2 ^ 8 := by
    rw [BitVec.toNat_and, BitVec.toNat_ofInt, h127, Nat.and_two_pow_sub_one_eq_mod]
  show IntKind.i64.wrap ((BitVec.ofInt 64 n &&& BitVec.ofInt 64 255).toNat : Nat) = n % 256
  rw [key, IntKind.wrap_i64]
  omega
theorem verB_big (d t : List UInt8) (hd : d.length = 32) (h : forN d ≤ beV t) : verB (keyN d) 3 d t = false := by
  unfold verB
  rw [keyN_val d hd, decide_eq_false (show ¬ beV t < forN d by omega)]
  simp
set_option maxHeartbeats 8000000 in
theorem turned_row (d : List UInt8) (by_ : Int) (w : World) (hd : IsD w d) (h1 : (Lit.int .u8 by_).wf = true) (hT : Lens w) :
    Calls Tryd.prog 6 #[dgV d, .int .u8 by_] w fun r w' => r = .returned (.bool true) ∧ Below w.heap.size w w' := by
  obtain ⟨a1, a2⟩ := bounds_u8 h1
  have hd : d.length = 32 := hd
  have HT := Lib.hid hT
  have hdg := dgA_is d hd
  have HD := Lib.hid hdg
  have HI := Lib.hid hdg.info
  clear h1 hdg hT
  -- what stands at the end, for any bytes that are not below the modulus
  go_enter Tryd.func6, Tryd.ntmps6
  go_upto_region 1 with (fail)
  refine wp_nm fun W1 hW1 => ?_
  have HZ : Hid (W1.heap[w.heap.size]? = some (.cells (dgA d) 22) ∧ Below w.heap.size w W1) := by rw [← hW1]; exact ⟨has_new _ _, kp_alloc (Below.refl _ _) _⟩
  clear hW1
  go_wp2_with (refine wpList_load_row rfl _ _ rfl w.heap.size rfl _ _ _ _ HZ.out.1 Tryd.underlying22 rfl HI.out ?_)
  refine (for_any (dgA d) d HD.out W1).mono ?_
  rintro r w2 ⟨A, c, B, k, rfl, ho1, ho2, hb2⟩
  have K2 := Lib.hid (has_below HZ.out.1 hb2)
  have B2 := Lib.hid (kp_call HZ.out.2 hb2)
  have O2 := Lib.hid (And.intro ho1 ho2)
  have hlt1 := block_lt HZ.out.1
  clear HZ ho1 ho2 hb2
  go_upto_region 2 with (fail)
  refine wp_nm fun W3 hW3 => ?_
  have hb3 : Below w2.heap.size w2 W3 := by rw [← hW3]; exact kp_alloc (Below.refl _ _) _
  have hk3 : W3.heap[w2.heap.size]? = some (.cells #[.slice A 256 c, .int .u64 3] 26) := by rw [← hW3]; exact has_new _ _
  obtain ⟨g, hg⟩ : ∃ g, w2.heap.size = g := ⟨_, rfl⟩
  have K3 := Lib.hid (has_below K2.out hb3)
  have B3 := Lib.hid (kp_call B2.out hb3)
  have O3 := Lib.hid (And.intro (O2.out.1.below hb3 (Nat.le_refl _)) (O2.out.2.below hb3 (Nat.le_refl _)))
  rw [hg] at hk3
  try rw [hg]
  have Q3 := Lib.hid hk3
  obtain ⟨x0, x1⟩ := cells_2 hk3
  clear hW3 hb3 hk3 K2 B2 O2 hg
  go_wp2_with fail
  refine (twin6_any A 256 c (keyN d) W3 O3.out.1.rb (by omega)).mono ?_
  rintro r w4 ⟨T, nt, ct, rfl, ho4, hb4⟩
  obtain rfl : nt = 256 := by have := ho4.len; rw [keyN_len] at this; omega
  have K4 := Lib.hid (has_below K3.out hb4)
  have Q4 := Lib.hid (has_below Q3.out hb4)
  have B4 := Lib.hid (kp_call B3.out hb4)
  have O4 := Lib.hid (And.intro (O3.out.1.below hb4 (Nat.le_refl _)) (O3.out.2.below hb4 (Nat.le_refl _)))
  have T4 := Lib.hid ho4.rb
  clear ho4 hb4 K3 Q3 B3 O3 x0 x1
  by_cases hby : by_ < 128
  rotate_left
  · have p1 : decide (by_ < 128) = false := decide_eq_false hby
    obtain ⟨x0, x1⟩ := cells_2 Q4.out
    have V1 := verify_any A 256 c 3 (keyN d) (dgA d) d T 256 ct (keyN d) w4 (HT.out.below' B4.out) O4.out.1.rb (by omega) (by omega) HD.out T4.out (by omega)
    rw [verB_big d (keyN d) hd (by rw [keyN_val d hd]; exact Nat.le_refl _)] at V1
    have V1 := Lib.hid V1
    go_upto_region 14 with (fail)
    go_wp2_with (refine wpList_load_row rfl _ _ rfl w.heap.size rfl _ _ _ _ K4.out Tryd.underlying22 rfl HI.out ?_)
    refine V1.out.mono ?_
    rintro r w5 ⟨rfl, hb5⟩
    have K5 := Lib.hid (has_below K4.out hb5)
    obtain ⟨x0, x1⟩ := cells_2 (has_below Q4.out hb5)
    have B5 := Lib.hid (kp_call B4.out hb5)
    have V2 := verify_any A 256 c 3 (keyN d) (dgA d) d B 256 k (sigN d) w5 (HT.out.below' B5.out) (O4.out.1.rb.below hb5) (by omega) (by omega) HD.out (O4.out.2.rb.below hb5) (by omega)
    rw [verB_for d d hd hd, decide_eq_true rfl] at V2
    have V2 := Lib.hid V2
    clear hb5 V1
    go_wp2_with (refine wpList_load_rowG rfl _ _ rfl w.heap.size rfl _ _ _ _ K5.out Tryd.underlying22 rfl HI.out ?_)
    refine V2.out.mono ?_
    rintro r w6 ⟨rfl, hb6⟩
    have B6 := Lib.hid (kp_call B5.out hb6)
    clear hb6 V2
    go_wp2_with fail
    refine (works6_any _ (HT.out.below' B6.out)).mono ?_
    rintro r w7 ⟨rfl, hb7⟩
    have B7 := Lib.hid (kp_call B6.out hb7)
    clear hb7
    go_wp2
    go_ret
    exact ⟨rfl, B7.out⟩
  · have p1 : decide (by_ < 128) = true := decide_eq_true hby
    go_wp2_with fail
    refine (twin6_any B 256 k (sigN d) w4 O4.out.2.rb (by omega)).mono ?_
    rintro r w5 ⟨T5, n5, c5, rfl, ho5, hb5⟩
    obtain rfl : n5 = 256 := by have := ho5.len; rw [sigN_len] at this; omega
    obtain ⟨G, rfl, hG1, hG2⟩ := ho5.shape (by have := ho5.cap.1; omega)
    have K5 := Lib.hid (has_below K4.out hb5)
    have Q5 := Lib.hid (has_below Q4.out hb5)
    have B5 := Lib.hid (kp_call B4.out hb5)
    have O5 := Lib.hid (And.intro (O4.out.1.rb.below hb5) (O4.out.2.rb.below hb5))
    obtain ⟨GA, hA, _, hGA⟩ := O4.out.1.shape (by have := O4.out.1.cap.1; omega)
    obtain ⟨GB', hB, _, hGB⟩ := O4.out.2.shape (by have := O4.out.2.cap.1; omega)
    subst hA hB
    have hgG : g < G := by have := block_lt Q4.out; omega
    have hwG : w.heap.size < G := by have := block_lt K4.out; omega
    have hAG : GA < G := by omega
    have hBG : GB' < G := by omega
    have hbase : w.heap.size ≤ w4.heap.size := B4.out.size
    have INV : Hid (∃ t, OwnB w5 w4.heap.size (some ⟨G, 0, none⟩) 256 c5 t ∧ AddAt (sigN d) (keyN d) t 256 0 ∧ RB w5 (some ⟨GA, 0, none⟩) 256 (keyN d) ∧ RB w5 (some ⟨GB', 0, none⟩) 256 (sigN d) ∧ w5.heap[w.heap.size]? = some (.cells (dgA d) 22) ∧ w5.heap[g]? = some (.cells #[.slice (some ⟨GA, 0, none⟩) 256 c, .int .u64 3] 26) ∧ Below w.heap.size w w5) :=
      ⟨_, ho5, add_start _ _ _ (sigN_len d) (keyN_len d) (sigN_len d), O5.out.1, O5.out.2, K5.out, Q5.out, B5.out⟩
    clear ho5 hb5 K4 Q4 B4 O4 T4 K5 Q5 B5 O5 hG1 hG2
    go_wp2
    go_loopw [8, 9] (fun u v wl => ∃ (j cr : Nat), u = .int .i64 (cr : Int) ∧ v = .int .i64 ((j : Int) - 1) ∧ j ≤ 256 ∧ cr ≤ 1 ∧ Hid (∃ t, OwnB wl w4.heap.size (some ⟨G, 0, none⟩) 256 c5 t ∧ AddAt (sigN d) (keyN d) t j cr ∧ RB wl (some ⟨GA, 0, none⟩) 256 (keyN d) ∧ RB wl (some ⟨GB', 0, none⟩) 256 (sigN d) ∧ wl.heap[w.heap.size]? = some (.cells (dgA d) 22) ∧ wl.heap[g]? = some (.cells #[.slice (some ⟨GA, 0, none⟩) 256 c, .int .u64 3] 26) ∧ Below w.heap.size w wl)) (fun _ v _ => (intOf v + 1).toNat)
    case atStart => exact ⟨256, 0, rfl, rfl, Nat.le_refl _, by omega, INV.out⟩
    case round =>
      obtain ⟨jj, cr, rfl, rfl, hj, hcr, HK⟩ := hrel
      clear INV
      rcases jj with _ | j
      · have j1 : ¬ ((0 : Nat) : Int) - 1 ≥ 0 := by omega
        obtain ⟨t, t1, t2, t3, t4, t5, t6, t7⟩ := HK.out
        have T1 := Lib.hid t1.rb
        have T2 := Lib.hid t2
        have T3 := Lib.hid (And.intro t3 t4)
        have T5 := Lib.hid t5
        have T6 := Lib.hid t6
        have T7 := Lib.hid t7
        obtain ⟨x0, x1⟩ := cells_2 t6
        clear t1 t2 t3 t4 t5 t6 t7 HK
        rcases (show cr = 0 ∨ cr = 1 by omega) with rfl | rfl
        · have V1 := verify_any (some ⟨GA, 0, none⟩) 256 c 3 (keyN d) (dgA d) d (some ⟨G, 0, none⟩) 256 c5 t wr (HT.out.below' T7.out) T3.out.1 (by omega) (by omega) HD.out T1.out (by omega)
          rw [verB_big d t hd (by have h9 := T2.out.2.2; rw [List.drop_zero, List.drop_zero, List.drop_zero, sigN_val d hd, keyN_val d hd] at h9; omega)] at V1
          have V1 := Lib.hid V1
          go_upto_region 14 with (fail)
          go_wp2_with (refine wpList_load_row rfl _ _ rfl w.heap.size rfl _ _ _ _ T5.out Tryd.underlying22 rfl HI.out ?_)
          refine V1.out.mono ?_
          rintro r w6 ⟨rfl, hb6⟩
          have K6 := Lib.hid (has_below T5.out hb6)
          obtain ⟨x0, x1⟩ := cells_2 (has_below T6.out hb6)
          have B6 := Lib.hid (kp_call T7.out hb6)
          have V2 := verify_any (some ⟨GA, 0, none⟩) 256 c 3 (keyN d) (dgA d) d (some ⟨GB', 0, none⟩) 256 k (sigN d) w6 (HT.out.below' B6.out) (T3.out.1.below hb6) (by omega) (by omega) HD.out (T3.out.2.below hb6) (by omega)
          rw [verB_for d d hd hd, decide_eq_true rfl] at V2
          have V2 := Lib.hid V2
          clear hb6 V1
          go_wp2_with (refine wpList_load_rowG rfl _ _ rfl w.heap.size rfl _ _ _ _ K6.out Tryd.underlying22 rfl HI.out ?_)
          refine V2.out.mono ?_
          rintro r w7 ⟨rfl, hb7⟩
          have B7 := Lib.hid (kp_call B6.out hb7)
          clear hb7 V2
          go_wp2_with fail
          refine (works6_any _ (HT.out.below' B7.out)).mono ?_
          rintro r w8 ⟨rfl, hb8⟩
          have B8 := Lib.hid (kp_call B7.out hb8)
          clear hb8
          go_wp2
          go_ret
          exact ⟨rfl, B8.out⟩
        · go_wp2_with fail
          refine (works6_any _ (HT.out.below' T7.out)).mono ?_
          rintro r w8 ⟨rfl, hb8⟩
          have B8 := Lib.hid (kp_call T7.out hb8)
          clear hb8
          go_wp2
          go_ret
          exact ⟨rfl, B8.out⟩
      · have e4 : (((j + 1 : Nat) : Int) - 1) = (j : Int) := by omega
        rw [e4]
        clear e4
        obtain ⟨t, t1, t2, t3, t4, t5, t6, t7⟩ := HK.out
        obtain ⟨qs, hqs⟩ : ∃ qs, (sigN d)[j]? = some qs := ⟨_, List.getElem?_eq_getElem (by rw [sigN_len]; omega)⟩
        obtain ⟨qk, hqk⟩ : ∃ qk, (keyN d)[j]? = some qk := ⟨_, List.getElem?_eq_getElem (by rw [keyN_len]; omega)⟩
        obtain ⟨qt, hqt⟩ : ∃ qt, t[j]? = some qt := ⟨_, List.getElem?_eq_getElem (by rw [t2.1]; omega)⟩
        obtain ⟨x, hx⟩ : ∃ x, qs.toNat + qk.toNat + cr = x := ⟨_, rfl⟩
        have hs8 := qs.toNat_lt
        have hk8 := qk.toNat_lt
        obtain ⟨y, hy⟩ : ∃ y, x % 256 = y := ⟨_, rfl⟩
        obtain ⟨z, hz⟩ : ∃ z, x / 256 = z := ⟨_, rfl⟩
        have AN := add_next (sigN d) (keyN d) t j cr qs qk (sigN_len d) (keyN_len d) (by omega) t2 hqs hqk x hx.symm
        rw [hy, hz] at AN
        have u1 : IntKind.i64.wrap (qs.toNat : Int) = (qs.toNat : Int) := IntWalk.i64_in _ (by omega)
        have u2 : IntKind.i64.wrap (qk.toNat : Int) = (qk.toNat : Int) := IntWalk.i64_in _ (by omega)
        have u3 : IntKind.i64.wrap ((qs.toNat : Int) + (qk.toNat : Int)) = (qs.toNat : Int) + (qk.toNat : Int) := IntWalk.i64_in _ (by omega)
        have u4 : IntKind.i64.wrap ((qs.toNat : Int) + (qk.toNat : Int) + (cr : Int)) = (x : Int) := by rw [IntWalk.i64_in _ (by omega)]; omega
        have u5 : bits .and .i64 (x : Int) 255 = (y : Int) := by rw [i64_and255]; omega
        have u6 : IntKind.u8.wrap (y : Int) = (y : Int) := by rw [IntKind.wrap_u8']; omega
        have u7 : (x : Int) / 2 ^ 8 = (z : Int) := by rw [show (2 : Int) ^ 8 = 256 from rfl]; omega
        have u8 : (x : Int) / 256 = (z : Int) := by omega
        have u9 : IntKind.i64.wrap ((j : Int) - 1) = (j : Int) - 1 := IntWalk.i64_in _ (by omega)
        have u10 : IntKind.i64.wrap (z : Int) = (z : Int) := IntWalk.i64_in _ (by omega)
        have hyq : ((UInt8.ofNat y).toNat : Int) = (y : Int) := by rw [UInt8.toNat_ofNat']; omega
        have hz1 : z ≤ 1 := AN.2.1
        obtain ⟨b1, o1, q1, e1, _, g1, k1⟩ := t4.at_ (k := j) (by omega)
        rw [hqs] at g1
        cases e1
        cases g1
        obtain ⟨b2, o2, q2, e2, _, g2, k2⟩ := t3.at_ (k := j) (by omega)
        rw [hqk] at g2
        cases e2
        cases g2
        rw [Nat.zero_add] at k1 k2
        have k3 := t1.cellAt j qt hqt
        have k4 := t1.free j
        obtain ⟨x0, x1⟩ := cells_2 t6
        have HQ : Hid (∀ nq, (∃ t, OwnB ((wr.drewN nq).setCell ⟨G, j, none⟩ (.int .u8 (y : Int))) w4.heap.size (some ⟨G, 0, none⟩) 256 c5 t ∧ AddAt (sigN d) (keyN d) t j z ∧ RB ((wr.drewN nq).setCell ⟨G, j, none⟩ (.int .u8 (y : Int))) (some ⟨GA, 0, none⟩) 256 (keyN d) ∧ RB ((wr.drewN nq).setCell ⟨G, j, none⟩ (.int .u8 (y : Int))) (some ⟨GB', 0, none⟩) 256 (sigN d) ∧ ((wr.drewN nq).setCell ⟨G, j, none⟩ (.int .u8 (y : Int))).heap[w.heap.size]? = some (.cells (dgA d) 22) ∧ ((wr.drewN nq).setCell ⟨G, j, none⟩ (.int .u8 (y : Int))).heap[g]? = some (.cells #[.slice (some ⟨GA, 0, none⟩) 256 c, .int .u64 3] 26) ∧ Below w.heap.size w ((wr.drewN nq).setCell ⟨G, j, none⟩ (.int .u8 (y : Int))))) := fun nq => by
          have hfar : ∀ (X : Nat) (bs : List UInt8), X < G → RB wr (some ⟨X, 0, none⟩) 256 bs → RB ((wr.drewN nq).setCell ⟨G, j, none⟩ (.int .u8 (y : Int))) (some ⟨X, 0, none⟩) 256 bs := fun X bs hX h => by
            refine ⟨h.1, fun hne => ?_⟩
            obtain ⟨b, off, e, hb, hc⟩ := h.2 hne
            refine ⟨b, off, e, by simpa [World.setCell] using hb, fun i hi => ?_⟩
            injection e with e
            injection e with e _
            rw [World.cell?_setCell_other _ _ _ _ (by intro e'; simp only [Addr.mk.injEq] at e'; omega)]
            exact hc i hi
          have s1 := (t1.drewN nq).stored j (UInt8.ofNat y)
          rw [hyq] at s1
          exact ⟨_, s1, AN, hfar GA _ hAG t3, hfar GB' _ hBG t4, has_set (has_drewN t5 nq) (by omega), has_set (has_drewN t6 nq) (by omega), kp_set (kp_drewN t7 nq) (by omega)⟩
        have j1 : (j : Int) ≥ 0 := by omega
        have j2 : (0 : Int) ≤ (j : Int) := by omega
        have j3 : (j : Int) < 256 := by omega
        clear t1 t2 t3 t4 t5 t6 t7 HK hqs hqk hqt hx hy hz AN hyq
        go_wp2_with fail
        go_quiet (fail)
        rename_i nq
        have HN := Lib.hid (HQ.out nq)
        clear HQ
        go_wp2
        go_roundw
        case rel => exact ⟨j, z, rfl, by go_num, by omega, hz1, HN.out⟩
        case measure => simp [intOf]
end Go.Proofs.YtbplchpbaonadaaDoor
