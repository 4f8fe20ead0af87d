/-
  siglist: the document's Read and Has (made by genSi2.py).
-/
import Derived.Test.YtfampefflkkckaaDoorSiAb
namespace Go.Proofs.YtfampefflkkckaaDoor
open Go.RowKit Go
set_option linter.unusedVariables false
set_option linter.unusedSimpArgs false
set_option maxRecDepth 100000

theorem done_any (A : Option Addr) (n c : Nat) (bs : List UInt8) (w : World) (hR : RB w A n bs) (hT : Sizes w) (hc : n ≤ c) (hn : n ≤ 1000000) (hcm : c ≤ 9223372036854775807) :
    Calls Tryd.prog 26 #[.slice A n c] w (DonePost w bs) := by
  have hl := hR.1
  by_cases h28 : n < 28
  · have e : oneQ bs = none := by unfold oneQ; rw [if_pos (by omega)]
    refine (done_less A n c w h28).mono fun e' w' h => ?_
    unfold DonePost
    rw [e]
    exact h
  · obtain ⟨b, off, q, rfl, -⟩ := hR.at_ (k := 0) (by omega)
    exact done_more b off n c bs w hR hT (by omega) hc hn hcm
theorem dread_big (A : Option Addr) (n c : Nat) (w : World) (h : 65536 < n) :
    Calls Tryd.prog 12 #[.slice A n c] w fun e w' => e = .returned (.tuple #[.slice none 0 0, .int .i64 10]) ∧ w = w' := by
  have h1 : decide ((n : Int) > (65536 : Int)) = true := decide_eq_true (by omega)
  have h2 : decide ((65536 : Int) < (n : Int)) = true := decide_eq_true (by omega)
  have h3 : decide (65536 < n) = true := decide_eq_true h
  clear h
  go_enter Tryd.func12, Tryd.ntmps12
  go_wp2
  go_ret2
  exact ⟨rfl, rfl⟩
set_option maxHeartbeats 4000000 in
theorem dread_any (A0 : Option Addr) (n c : Nat) (bs : List UInt8) (w : World) (hR : RB w A0 n bs) (hT : Sizes w) (hc : n ≤ c) (hn : n ≤ 65536) (hcm : c ≤ 9223372036854775807) :
    Calls Tryd.prog 12 #[.slice A0 n c] w (ReadPost w bs) := by
  have h1 : decide ((n : Int) > (65536 : Int)) = false := decide_eq_false (by omega)
  have h2 : decide ((65536 : Int) < (n : Int)) = false := decide_eq_false (by omega)
  have h3 : decide (65536 < n) = false := decide_eq_false (by omega)
  have HR := Lib.hid hR
  have HT := Lib.hid hT
  have hl := Lib.hid hR.1
  clear hR hT
  go_enter Tryd.func12, Tryd.ntmps12
  go_wp2
  clear h1 h2 h3
  go_loopw [4, 5] (fun u v wl => ∃ (a : Nat) (A2 : Option Addr) (k c2 : Nat) (ls : List LM), u = .slice A2 k c2 ∧ v = .int .i64 (a : Int) ∧ a ≤ n ∧
    OwnR wl w.heap.size 41 2 A2 k c2 (ls.flatMap LM.cells) ∧ Lms wl w.heap.size ls ∧ Below w.heap.size w wl ∧ Hid (readQ bs = (readQ (bs.drop a)).map (ls.map LM.lst ++ ·) ∧ ls.length = k ∧ k ≤ a)) (fun _ v _ => (n - (intOf v).toNat))
  case atStart => exact ⟨0, none, 0, 0, [], rfl, rfl, Nat.zero_le _, OwnR.nil _ _ _ _, Lms.nil _ _, Below.refl _ _, ⟨by rw [List.drop_zero]; cases readQ bs <;> rfl, rfl, Nat.le_refl _⟩⟩
  case round =>
    obtain ⟨a, A2, k, c2, ls, rfl, rfl, ha, ho, hi, hb, hx⟩ := hrel
    rcases Nat.lt_or_ge a n with hlt | hge
    · obtain ⟨b, off, q, rfl, -⟩ := HR.out.at_ (k := 0) (by omega)
      have l1 : decide ((a : Int) < (n : Int)) = true := decide_eq_true (by omega)
      have l2 : decide (a < n) = true := decide_eq_true hlt
      have l3 : (a : Int) ≤ (n : Int) := by omega
      have l4 : a ≤ n := by omega
      have l5 : a < c := by omega
      have l6 : c ≠ a := by omega
      have l7 : a ≠ c := by omega
      have RW : RB wr (some ⟨b, off + a, none⟩) (n - a) (bs.drop a) := by
        have h9 := HR.out.below hb
        refine ⟨by rw [List.length_drop, hl.out], fun hne => ?_⟩
        obtain ⟨b', off', e, hb', h7⟩ := h9.2 (by intro e; rw [e] at hne; simp at hne)
        injection e with e
        injection e with e1 e2
        subst e1; subst e2
        refine ⟨b, off + a, rfl, hb', fun j hj => ?_⟩
        rw [List.length_drop] at hj
        rw [Nat.add_assoc, h7 (a + j) (by omega)]
        congr 2
        rw [List.getElem_drop]
      have hne : bs.drop a ≠ [] := fun e => by
        have := congrArg List.length e
        rw [List.length_drop, hl.out, List.length_nil] at this
        omega
      have RL := done_any (some ⟨b, off + a, none⟩) (n - a) (c - a) (bs.drop a) wr RW (HT.out.below' hb) (by omega) (by omega) (by omega)
      cases hq : oneQ (bs.drop a) with
      | none =>
        have C : Hid (Calls Tryd.prog 26 #[.slice (some ⟨b, off + a, none⟩) (n - a) (c - a)] wr fun e w' => e = .returned noD ∧ Below wr.heap.size wr w') := RL.mono fun e w' h => by
          unfold DonePost at h; rw [hq] at h; exact h
        have K := Lib.hid (And.intro hb (show readQ bs = none by rw [hx.1, read_none hne hq]; rfl))
        clear RL ho hi hb hx hq hne RW
        go_wp2_with fail
        refine C.out.mono ?_
        clear C
        rintro e w3 ⟨rfl, hb3⟩
        have K3 := Lib.hid (kp_call K.out.1 hb3)
        clear hb3
        rw [show noD = .tuple #[.agg #[.int .u8 0, .slice none 0 0], .int .i64 0] from rfl]
        go_wp2
        go_ret2
        refine ⟨?_, kp_alloc K3.out _⟩
        rw [K.out.2]
        rfl
      | some p =>
        obtain ⟨x, m⟩ := p
        have h1 := one_read hq
        rw [List.length_drop, hl.out] at h1
        have C : Hid (Calls Tryd.prog 26 #[.slice (some ⟨b, off + a, none⟩) (n - a) (c - a)] wr fun e w' => (∃ A3 c3, e = .returned (.tuple #[.agg #[.int .u8 (x.1.toNat : Int), .slice A3 x.2.length c3], .int .i64 (m : Int)]) ∧ ItemsOwn w' wr.heap.size A3 x.2.length c3 x.2) ∧ Below wr.heap.size wr w') := RL.mono fun e w' h => by
          unfold DonePost at h; rw [hq] at h; exact h
        obtain ⟨xk, xi⟩ := x
        dsimp only at C h1
        obtain ⟨a2, ha2⟩ : ∃ a2, a2 = a + m := ⟨_, rfl⟩
        have m1 : IntKind.i64.wrap ((a : Int) + (m : Int)) = (a2 : Int) := by rw [show (a : Int) + (m : Int) = (a2 : Int) by omega]; exact IntWalk.i64_in _ (by omega)
        have m2 : ((m : Int) == 0) = false := beq_eq_false_iff_ne.2 (by omega)
        have m3 : (m == 0) = false := beq_eq_false_iff_ne.2 (by omega)
        have HA2 := Lib.hid (And.intro ha2 (And.intro (show a2 ≤ n by omega) (show a < a2 by omega)))
        have K := Lib.hid (And.intro ho (And.intro hi (And.intro hb (And.intro hb.size (And.intro (show readQ bs = (readQ (bs.drop a2)).map ((ls.map LM.lst ++ [(xk, xi)]) ++ ·) by rw [hx.1, read_some hq, Option.map_map, List.drop_drop, ha2]; congr 1; funext l; simp) hx.2)))))
        clear RL ho hi hb hx hq hne h1 RW ha2
        go_wp2_with fail
        refine C.out.mono ?_
        clear C
        rintro e w3 ⟨⟨A3, c3, rfl, hi3⟩, hb3⟩
        have hmax : k + 1 ≤ maxLen := by have := K.out.2.2.2.2.2; unfold maxLen; omega
        obtain ⟨xl, hxl⟩ : ∃ xl, xi.length = xl := ⟨_, rfl⟩
        rw [hxl] at hi3 ⊢
        have HXL := Lib.hid hxl
        clear hxl
        have HB := Lib.hid (Nat.le_trans K.out.2.2.2.1 hb3.size)
        have K3 := Lib.hid (And.intro (kp_call K.out.2.2.1 hb3) (And.intro (hi3.lower K.out.2.2.2.1) hb3))
        have HO6 := Lib.hid (((K.out.1.below hb3 (Nat.le_refl _)).alloc (.cells #[.int .u8 (xk.toNat : Int), .slice A3 xl c3] 41)).alloc (.cells #[.int .u8 (xk.toNat : Int), .slice A3 xl c3] 41))
        have H1 : Hid (∀ u ∈ (#[.int .u8 (xk.toNat : Int), .slice A3 xl c3] : Array Value).toList, u.oneCell' = true) := List.all_eq_true.1 rfl
        clear hi3 hb3
        have HG : Hid (((w3.alloc (.cells #[.int .u8 (xk.toNat : Int), .slice A3 xl c3] 41)).alloc (.cells #[.int .u8 (xk.toNat : Int), .slice A3 xl c3] 41)).heap[w3.heap.size + 1]? = some (.cells #[.int .u8 (xk.toNat : Int), .slice A3 xl c3] 41)) := has_new' _ _ _ (by simp)
        have HE : Hid (readQ bs = (readQ (bs.drop a2)).map ((ls ++ [(⟨xk, xi, A3, xl, c3⟩ : LM)]).map LM.lst ++ ·) ∧ (ls ++ [(⟨xk, xi, A3, xl, c3⟩ : LM)]).length = k + 1 ∧ k + 1 ≤ a2) := ⟨by rw [K.out.2.2.2.2.1, List.map_append]; rfl, by rw [List.length_append, K.out.2.2.2.2.2.1]; rfl, by have h1 := K.out.2.2.2.2.2.2; have h2 := HA2.out; omega⟩
        go_wp2_with (at_builtin; refine wpList_appL list_row _ _ rfl rfl rfl w.heap.size A2 k c2 _ rfl HO6.out (w3.heap.size + 1) 1 1 #[.int .u8 (xk.toNat : Int), .slice A3 xl c3] _ rfl HG.out rfl H1.out hmax (by have := K.out.2.2.2.2.2; omega) (by have := HB.out; simp; omega) ?_)
        intro V' c' w7 ho7 hg7
        have hi7 : Lms w7 w.heap.size (ls ++ [⟨xk, xi, A3, xl, c3⟩]) := ((((K.out.2.1.below K3.out.2.2 (Nat.le_refl _)).snoc ⟨xk, xi, A3, xl, c3⟩ K3.out.2.1).below (kp_alloc (kp_alloc (Below.refl _ _) _) _) (Nat.le_refl _))).kept HO6.out (by decide) (by decide) hg7
        have hb7 : Below w.heap.size w w7 := (kp_alloc (kp_alloc K3.out.1 _) _).grown hg7 (by have := HB.out; simp; omega) (fun g hg => (HO6.out.blk_lt hg).1)
        have K7 := Lib.hid (And.intro ho7 (And.intro hi7 hb7))
        clear ho7 hg7 hi7 hb7
        go_wp2
        go_roundw
        case rel => exact ⟨a2, V', k + 1, c', ls ++ [⟨xk, xi, A3, xl, c3⟩], rfl, rfl, HA2.out.2.1, by rw [List.flatMap_append]; exact K7.out.1, K7.out.2.1, K7.out.2.2, HE⟩
        case measure => have := HA2.out; simp [intOf]; omega
    · have han : a = n := by omega
      have l1 : decide ((a : Int) < (n : Int)) = false := decide_eq_false (by omega)
      have l2 : decide (a < n) = false := decide_eq_false (by omega)
      have K := Lib.hid (And.intro ho (And.intro hi (And.intro hb hx)))
      have HAN := Lib.hid han
      clear ho hi hb hx hge ha han
      go_wp2
      go_ret2
      refine ⟨?_, K.out.2.2.1⟩
      rw [K.out.2.2.2.1, List.drop_of_length_le (by rw [hl.out, HAN.out]; exact Nat.le_refl _), read_nil]
      show ∃ A2 c2, _ ∧ _
      simp only [List.append_nil, List.length_map, K.out.2.2.2.2.1]
      exact ⟨A2, c2, rfl, ls, rfl, K.out.1, K.out.2.1⟩
set_option maxHeartbeats 16000000 in
theorem dhas_any (A : Option Addr) (n c : Nat) (ls : List LM) (kd : UInt8) (D : Option Addr) (dn dc : Nat) (da : List UInt8) (w : World) (hL : ListsZ w A n ls) (hc : n ≤ c) (hcm : c ≤ 9223372036854775807) (hn : n ≤ 100000) (hm : ∀ z ∈ ls, z.n ≤ 4000000000000) (hD : RB w D dn da) :
    Calls Tryd.prog 15 #[.slice A n c, .int .u8 (kd.toNat : Int), .slice D dn dc] w fun e w' => e = .returned (.bool (hasQ (ls.map LM.lst) kd da)) ∧ Below w.heap.size w w' := by
  have HL := Lib.hid hL
  have HD := Lib.hid hD
  have HM := Lib.hid hm
  obtain ⟨s2, hs2⟩ : ∃ s2, strOf da = s2 := ⟨_, rfl⟩
  have HS2 := Lib.hid hs2
  have HS2L : Hid (s2.toList = da) := by rw [← hs2]; exact strOf_toList _
  clear hL hD hm hs2
  go_enter Tryd.func15, Tryd.ntmps15
  go_wp2
  go_loopw [7] (fun v wl => ∃ (i : Nat), v = .int .i64 (i : Int) ∧ i ≤ n ∧ Below w.heap.size w wl ∧ Hid (∀ j z, j < i → ls[j]? = some z → ∀ y ∈ z.lst.2, hasI kd da z.lst.1 y = false)) (fun v _ => (n - (intOf v).toNat))
  case atStart => exact ⟨0, rfl, Nat.zero_le _, Below.refl _ _, fun j z hj => absurd hj (by omega)⟩
  case round =>
    obtain ⟨i, rfl, hi, hb, hz⟩ := hrel
    rcases Nat.lt_or_ge i n with hlt | hge
    · have l1 : decide ((i : Int) < (n : Int)) = true := decide_eq_true (by omega)
      have l2 : decide (i < n) = true := decide_eq_true hlt
      obtain ⟨z, b, off, hg, hA, hbl, hr, zs, hz1⟩ := (HL.out.below hb).at_ hlt
      subst hA
      obtain ⟨za, hza⟩ : ∃ za, z.a = za := ⟨_, rfl⟩
      have hzn := HM.out z (List.mem_of_getElem? hg)
      have K := Lib.hid (And.intro hb (And.intro hz (And.intro hg (And.intro hz1 hr))))
      obtain ⟨wo, hwo⟩ : ∃ wo, wo = wr := ⟨_, rfl⟩
      subst hwo
      clear hb hz hg hr hz1 hbl hi
      go_wp2
      go_loopw [8] (fun v wl => ∃ (j : Nat), v = .int .i64 (j : Int) ∧ j ≤ z.n ∧ Below wo.heap.size wo wl ∧ Hid (∀ q y, q < j → zs[q]? = some y → hasI kd da z.k y.itm = false)) (fun v _ => (z.n - (intOf v).toNat))
      case atStart => exact ⟨0, rfl, Nat.zero_le _, Below.refl _ _, fun j z hj => absurd hj (by omega)⟩
      case round =>
        obtain ⟨j, rfl, hj, hb, hq⟩ := hrel
        have hrr := range_below K.out.2.2.2.2 hb
        have r0 : wr.cell? ⟨b, off + i * 2, none⟩ = some (.int .u8 (z.k.toNat : Int)) := hrr 0 _ rfl
        have r1 : wr.cell? ⟨b, off + i * 2 + 1, none⟩ = some (.slice za z.n z.c) := by rw [← hza]; exact hrr 1 _ rfl
        rcases Nat.lt_or_ge j z.n with hlt2 | hge2
        · have l3 : decide ((j : Int) < (z.n : Int)) = true := decide_eq_true (by omega)
          have l4 : decide (j < z.n) = true := decide_eq_true hlt2
          obtain ⟨y, b2, off2, hg2, hA2, hbl2, hr2, hy1⟩ := (K.out.2.2.2.1.i.below hb).at_ hlt2
          rw [hza] at hA2
          subst hA2
          have r2 : wr.cell? ⟨b2, off2 + j * 17 + 16, none⟩ = some (.slice y.a y.n y.c) := data_cell hr2 hy1.o
          have RYW := Lib.hid hy1.r
          have K2 := Lib.hid (And.intro hb (And.intro hq (And.intro hg2 hy1)))
          have HLST := Lib.hid (kp_call K.out.1 hb)
          have l5 : IntKind.i64.wrap ((j : Int) + 1) = ((j + 1 : Nat) : Int) := IntWalk.i64_in _ (by omega)
          have NEXT : Hid (hasI kd da z.k y.itm = false → ∀ q v, q < j + 1 → zs[q]? = some v → hasI kd da z.k v.itm = false) := fun h q v hq hv => by
            rcases Nat.lt_or_ge q j with h1 | h1
            · exact K2.out.2.1 q v h1 hv
            · obtain rfl : q = j := by omega
              rw [K2.out.2.2.1] at hv
              injection hv with hv
              subst hv
              exact h
          have YES : Hid (hasI kd da z.k y.itm = true → hasQ (ls.map LM.lst) kd da = true) := fun h =>
            hasQ_yes _ _ _ z.lst (List.mem_map_of_mem (List.mem_of_getElem? K.out.2.2.1)) y.itm (lm_item K.out.2.2.2.1 K2.out.2.2.1) h
          clear hb hq hg2 hr2 hy1 hbl2 hrr hj
          by_cases hk : z.k = kd
          · obtain ⟨v, hv⟩ : ∃ v, (toldL kd y.d == da) = v := ⟨_, rfl⟩
            have HV : Hid (hasI kd da z.k y.itm = v) := by unfold Hid hasI; rw [hk, show (kd == kd) = true by simp, Bool.true_and]; exact hv
            have e1 : ((z.k.toNat : Int) == (kd.toNat : Int)) = true := by rw [hk]; simp
            have e2 : (z.k.toNat == kd.toNat) = true := by rw [hk]; simp
            have CV2 : (convert 22 9 (.slice D dn dc)).run Tryd.prog wr = .ok (.string s2) wr := by
              have h9 := run_strOf wr wr.heap.size D da dc (HD.out.below (kp_call K.out.1 K2.out.1)).2
              rw [HD.out.1, HS2.out] at h9
              exact h9
            clear hk
            by_cases h3 : kd = 3
            · have g1 : ((kd.toNat : Int) == 3) = true := by rw [h3]; rfl
              have g2 : (kd.toNat == 3) = true := by rw [h3]; rfl
              by_cases h32 : y.n < 32
              · have m1 : ¬ (32 : Int) ≤ (y.n : Int) := by omega
                have m2 : ¬ 32 ≤ y.n := by omega
                have m3 : (y.n : Int) ≤ (y.c : Int) := by have := K2.out.2.2.2.c; omega
                have m4 : y.n ≤ y.c := by have := K2.out.2.2.2.c; omega
                obtain ⟨tl, htl⟩ : ∃ tl, y.d = tl := ⟨_, rfl⟩
                have HTL : Hid (RB wr y.a y.n tl ∧ toldL kd y.d = tl) := ⟨by rw [← htl]; exact RYW.out, by rw [← htl]; unfold toldL; rw [if_pos h3, List.take_of_length_le (by rw [RYW.out.1]; omega)]⟩
                obtain ⟨s1, hs1⟩ : ∃ s1, strOf tl = s1 := ⟨_, rfl⟩
                have HS1 := Lib.hid hs1
                have HQ12 : Hid ((s1.toList == s2.toList) = v) := by unfold Hid; rw [← hs1, strOf_toList, HS2L.out, ← HTL.out.2]; exact hv
                clear h3 h32 htl hs1 hv
                have CV : (convert 22 9 (.slice y.a y.n y.c)).run Tryd.prog wr = .ok (.string s1) wr := by
                  have h9 := run_strOf wr wr.heap.size y.a tl y.c HTL.out.1.2
                  rw [HTL.out.1.1, HS1.out] at h9
                  exact h9
                cases v with
                | true =>
                  have q1 : (s1.toList == s2.toList) = true := HQ12.out
                  go_wp2
                  go_ret
                  exact ⟨by rw [YES.out HV.out]; rfl, HLST.out⟩
                | false =>
                  have q1 : (s1.toList == s2.toList) = false := HQ12.out
                  have q2 : ¬ s1.toList = s2.toList := fun e => by rw [e] at q1; simp at q1
                  go_wp2
                  go_roundw
                  case rel => exact ⟨j + 1, rfl, hlt2, K2.out.1, NEXT.out HV.out⟩
                  case measure => simp [intOf]; omega
              · have m1 : (32 : Int) ≤ (y.n : Int) := by omega
                have m2 : 32 ≤ y.n := by omega
                have m3 : (32 : Int) ≤ (y.c : Int) := by have := K2.out.2.2.2.c; omega
                have m4 : 32 ≤ y.c := by have := K2.out.2.2.2.c; omega
                obtain ⟨tl, htl⟩ : ∃ tl, y.d.take 32 = tl := ⟨_, rfl⟩
                have HTL : Hid (RB wr y.a 32 tl ∧ toldL kd y.d = tl) := ⟨by rw [← htl]; exact rb_take3 RYW.out 32 (by omega), by rw [← htl]; unfold toldL; rw [if_pos h3]⟩
                obtain ⟨s1, hs1⟩ : ∃ s1, strOf tl = s1 := ⟨_, rfl⟩
                have HS1 := Lib.hid hs1
                have HQ12 : Hid ((s1.toList == s2.toList) = v) := by unfold Hid; rw [← hs1, strOf_toList, HS2L.out, ← HTL.out.2]; exact hv
                clear h3 h32 htl hs1 hv
                have CV : (convert 22 9 (.slice y.a 32 y.c)).run Tryd.prog wr = .ok (.string s1) wr := by
                  have h9 := run_strOf wr wr.heap.size y.a tl y.c HTL.out.1.2
                  rw [HTL.out.1.1, HS1.out] at h9
                  exact h9
                cases v with
                | true =>
                  have q1 : (s1.toList == s2.toList) = true := HQ12.out
                  go_wp2
                  go_ret
                  exact ⟨by rw [YES.out HV.out]; rfl, HLST.out⟩
                | false =>
                  have q1 : (s1.toList == s2.toList) = false := HQ12.out
                  have q2 : ¬ s1.toList = s2.toList := fun e => by rw [e] at q1; simp at q1
                  go_wp2
                  go_roundw
                  case rel => exact ⟨j + 1, rfl, hlt2, K2.out.1, NEXT.out HV.out⟩
                  case measure => simp [intOf]; omega
            · have g3 : kd.toNat ≠ 3 := fun h => h3 (UInt8.toNat_inj.1 h)
              have g1 : ((kd.toNat : Int) == 3) = false := beq_eq_false_iff_ne.2 (by omega)
              have g2 : (kd.toNat == 3) = false := beq_eq_false_iff_ne.2 g3
              obtain ⟨tl, htl⟩ : ∃ tl, y.d = tl := ⟨_, rfl⟩
              have HTL : Hid (RB wr y.a y.n tl ∧ toldL kd y.d = tl) := ⟨by rw [← htl]; exact RYW.out, by rw [← htl]; unfold toldL; rw [if_neg h3]⟩
              obtain ⟨s1, hs1⟩ : ∃ s1, strOf tl = s1 := ⟨_, rfl⟩
              have HS1 := Lib.hid hs1
              have HQ12 : Hid ((s1.toList == s2.toList) = v) := by unfold Hid; rw [← hs1, strOf_toList, HS2L.out, ← HTL.out.2]; exact hv
              clear h3 htl hs1 hv
              have CV : (convert 22 9 (.slice y.a y.n y.c)).run Tryd.prog wr = .ok (.string s1) wr := by
                have h9 := run_strOf wr wr.heap.size y.a tl y.c HTL.out.1.2
                rw [HTL.out.1.1, HS1.out] at h9
                exact h9
              cases v with
              | true =>
                have q1 : (s1.toList == s2.toList) = true := HQ12.out
                go_wp2
                go_ret
                exact ⟨by rw [YES.out HV.out]; rfl, HLST.out⟩
              | false =>
                have q1 : (s1.toList == s2.toList) = false := HQ12.out
                have q2 : ¬ s1.toList = s2.toList := fun e => by rw [e] at q1; simp at q1
                go_wp2
                go_roundw
                case rel => exact ⟨j + 1, rfl, hlt2, K2.out.1, NEXT.out HV.out⟩
                case measure => simp [intOf]; omega
          · have HV : Hid (hasI kd da z.k y.itm = false) := by unfold Hid hasI; rw [show (z.k == kd) = false from beq_eq_false_iff_ne.2 hk, Bool.false_and]
            have e3 : z.k.toNat ≠ kd.toNat := fun h => hk (UInt8.toNat_inj.1 h)
            have e1 : ((z.k.toNat : Int) == (kd.toNat : Int)) = false := beq_eq_false_iff_ne.2 (by omega)
            have e2 : (z.k.toNat == kd.toNat) = false := beq_eq_false_iff_ne.2 e3
            clear hk
            by_cases h3 : kd = 3
            · have g1 : ((kd.toNat : Int) == 3) = true := by rw [h3]; rfl
              have g2 : (kd.toNat == 3) = true := by rw [h3]; rfl
              by_cases h32 : y.n < 32
              · have m1 : ¬ (32 : Int) ≤ (y.n : Int) := by omega
                have m2 : ¬ 32 ≤ y.n := by omega
                have m3 : (y.n : Int) ≤ (y.c : Int) := by have := K2.out.2.2.2.c; omega
                have m4 : y.n ≤ y.c := by have := K2.out.2.2.2.c; omega
                clear h3 h32
                go_wp2
                go_roundw
                case rel => exact ⟨j + 1, rfl, hlt2, K2.out.1, NEXT.out HV.out⟩
                case measure => simp [intOf]; omega
              · have m1 : (32 : Int) ≤ (y.n : Int) := by omega
                have m2 : 32 ≤ y.n := by omega
                have m3 : (32 : Int) ≤ (y.c : Int) := by have := K2.out.2.2.2.c; omega
                have m4 : 32 ≤ y.c := by have := K2.out.2.2.2.c; omega
                clear h3 h32
                go_wp2
                go_roundw
                case rel => exact ⟨j + 1, rfl, hlt2, K2.out.1, NEXT.out HV.out⟩
                case measure => simp [intOf]; omega
            · have g3 : kd.toNat ≠ 3 := fun h => h3 (UInt8.toNat_inj.1 h)
              have g1 : ((kd.toNat : Int) == 3) = false := beq_eq_false_iff_ne.2 (by omega)
              have g2 : (kd.toNat == 3) = false := beq_eq_false_iff_ne.2 g3
              clear h3
              go_wp2
              go_roundw
              case rel => exact ⟨j + 1, rfl, hlt2, K2.out.1, NEXT.out HV.out⟩
              case measure => simp [intOf]; omega
        · have hjm : j = z.n := by omega
          have l3 : decide ((j : Int) < (z.n : Int)) = false := decide_eq_false (by omega)
          have l4 : decide (j < z.n) = false := decide_eq_false (by omega)
          have l5 : IntKind.i64.wrap ((i : Int) + 1) = ((i + 1 : Nat) : Int) := IntWalk.i64_in _ (by omega)
          have HB := Lib.hid (kp_call K.out.1 hb)
          have NEXT : Hid (∀ q v, q < i + 1 → ls[q]? = some v → ∀ y ∈ v.lst.2, hasI kd da v.lst.1 y = false) := fun q v hq' hv => by
            rcases Nat.lt_or_ge q i with h1 | h1
            · exact K.out.2.1 q v h1 hv
            · obtain rfl : q = i := by omega
              rw [K.out.2.2.1] at hv
              injection hv with hv
              subst hv
              exact lm_each K.out.2.2.2.1 (fun j' y hj' hy => hq j' y (by omega) hy)
          clear hb hq hge2 hrr hjm
          go_wp2
          go_roundw
          case rel => exact ⟨i + 1, rfl, hlt, HB.out, NEXT.out⟩
          case measure => simp [intOf]; omega
    · obtain rfl : n = i := by omega
      have l1 : decide ((n : Int) < (n : Int)) = false := decide_eq_false (by omega)
      have l2 : decide (n < n) = false := decide_eq_false (by omega)
      have K := Lib.hid (And.intro hb hz)
      clear hb hz hge hi
      go_wp2
      go_ret
      exact ⟨by rw [hasQ_no _ _ _ (ls_each HL.out (P := fun x => ∀ y ∈ x.2, hasI kd da x.1 y = false) (fun j z hj h => K.out.2 j z hj h))]; rfl, K.out.1⟩
theorem dhas_r {w W : World} {A : Option Addr} {n c : Nat} {l : List Lst} (hL : ListsR w A n c l) (hl : Lim l 4000000000000 1000000000) (hn : n ≤ 100000) (kd : UInt8) (D : Option Addr) (dn dc : Nat) (da : List UInt8) (hb : Below w.heap.size w W) (hD : RB W D dn da) :
    Calls Tryd.prog 15 #[.slice A n c, .int .u8 (kd.toNat : Int), .slice D dn dc] W fun e w' => e = .returned (.bool (hasQ l kd da)) ∧ Below W.heap.size W w' := by
  obtain ⟨ls, rfl, h2, h3, h4⟩ := hL
  exact dhas_any A n c ls kd D dn dc da W (h2.below hb) h3 h4 hn (lim_n h2 hl) hD
end Go.Proofs.YtfampefflkkckaaDoor
