/-
  vname: the row VnameTells (made by genVnO.py).
-/
import Derived.Test.YtjcbmgpmlekamaaVnN
namespace Go.Proofs.Ytjcbmgpmlekamaa
open Go.RowKit Go
set_option linter.unusedVariables false
set_option linter.unusedSimpArgs false
set_option maxRecDepth 100000
theorem up_same {P : Program} {f : FuncId} {args : Array Value} {W : World} {x : Up W} {v : Value} (h : Calls P f args x.w fun e w' => e = .returned v ∧ w' = x.w) :
    Calls P f args x.w fun e w'' => e = .returned v ∧ ∃ y : Up W, w'' = y.w :=
  h.mono fun _ w' ⟨he, hw⟩ => ⟨he, x, hw⟩
theorem splitV_is (bs : List UInt8) : ∃ x Y z, splitV bs = .tuple #[.string x, .agg (gv Y), .bool z] ∧ Y.length = 16 := by
  unfold splitV
  split
  · rename_i h
    refine ⟨_, _, _, rfl, ?_⟩
    unfold keyB at h
    have h1 := of_decide_eq_true (Bool.and_eq_true _ _ ▸ h).1
    rw [List.length_take]; omega
  · exact ⟨_, zG, _, by rw [zA_eq], rfl⟩
set_option maxHeartbeats 32000000 in
theorem tells_row (s : ByteArray) (G : List UInt8) (wh : Int) (A : Option Addr) (n c : Nat) (kb : List UInt8) (kd at_ : Int) (w : World) (hs : s.size ≤ maxLen) (hG : IsG w G) (hw : (Lit.int .u8 wh).wf = true) (hB : IsBs w A n c kb) (hkd : (Lit.int .u8 kd).wf = true) (hat : (Lit.int .u32 at_).wf = true) :
    Calls Try.prog 3 #[.string s, .agg (gv G), .int .u8 wh, .slice A n c, .int .u8 kd, .int .u32 at_] w fun e w' => e = .returned (.bool true) ∧ Below w.heap.size w w' := by
  have WK := Lib.hid works19_any
  by_cases hA : 4096 < s.size
  · have p1 : decide ((s.size : Int) > 4096) = true := decide_eq_true (by omega)
    go_enter Try.func3, Try.ntmps3
    go_wp2_with fail
    refine (WK.out _).mono ?_
    rintro e w2 ⟨rfl, hb2⟩
    go_wp2
    go_ret
    exact ⟨rfl, kp_call (kp_alloc (Below.refl _ _) _) hb2⟩
  have p1 : decide ((s.size : Int) > 4096) = false := decide_eq_false (by omega)
  have hRB : RB w A n kb := hB.rb
  have hnc : n ≤ c := hB.le
  by_cases hN : 4096 < n
  · have p2 : decide ((n : Int) > 4096) = true := decide_eq_true (by omega)
    go_enter Try.func3, Try.ntmps3
    go_wp2_with fail
    refine (WK.out _).mono ?_
    rintro e w2 ⟨rfl, hb2⟩
    go_wp2
    go_ret
    exact ⟨rfl, kp_call (kp_alloc (Below.refl _ _) _) hb2⟩
  have p2 : decide ((n : Int) > 4096) = false := decide_eq_false (by omega)
  have b2 := bounds_u8 hw
  have b4 := bounds_u8 hkd
  have b5 := bounds_u32 hat
  obtain ⟨k, rfl⟩ : ∃ k : Nat, kd = (k : Int) := ⟨kd.toNat, by omega⟩
  obtain ⟨a, rfl⟩ : ∃ a : Nat, at_ = (a : Int) := ⟨at_.toNat, by omega⟩
  obtain ⟨x, Y, z, hsp, hY⟩ := splitV_is kb
  have FT := Lib.hid (fun W => fits_any k a (by omega) (by omega) W)
  have DF := Lib.hid (fun W => dfits_any k a (by omega) (by omega) W)
  obtain ⟨ff, hff⟩ : ∃ q : Int, (if fitsB k a = true then (0 : Int) else 1) = q := ⟨_, rfl⟩
  rw [hff] at FT DF
  clear hff
  have hn4 : n ≤ 4096 := by omega
  have hs4 : s.size ≤ 1000000000 := by omega
  have SPL := Lib.hid (fun B m base W (ho : OwnB W base B n m kb) => split_full B n m base kb W ho hn4)
  have DSP := Lib.hid (fun W (ho : RB W A n kb) => dsplit_any A n c kb W ho hn4 hnc)
  rw [hsp] at SPL DSP
  have HRB := Lib.hid hRB
  have HY := Lib.hid hY
  have IY := Lib.hid (gv_size Y hY)
  have EYY : ∀ W, (Op.equalIn 10000 23 (.agg (gv Y)) (.agg (gv Y))).run Try.prog W = .ok true W := fun W => by
    have := guid_same Y Y hY hY W 9998
    rwa [decide_eq_true rfl] at this
  have EGG : ∀ W, (Op.equalIn 10000 23 (.agg gG) (.agg gG)).run Try.prog W = .ok true W := fun W => by
    have := guid_same GLb GLb rfl rfl W 9998
    rw [decide_eq_true rfl, show (GLb.map bv).toArray = gG from gG_eq] at this
    exact this
  have ESS : ∀ W, (Op.equalIn 10000 23 (.agg gS) (.agg gS)).run Try.prog W = .ok true W := fun W => by
    have := guid_same SLb SLb rfl rfl W 9998
    rw [decide_eq_true rfl, show (SLb.map bv).toArray = gS from gS_eq] at this
    exact this
  have RT := Lib.hid (fun W => right_any s hs4 W)
  have DR := Lib.hid (fun W => dright_any s hs4 W)
  have HN4 := Lib.hid hn4
  have HS4 := Lib.hid hs4
  have hG16 : G.length = 16 := hG
  have TAIL : ∀ (H : List UInt8), H.length = 16 → True := fun _ _ => trivial
  clear hA hN hs hG hw hB hkd hat b4 b5 hsp hRB hY TAIL
  obtain ⟨q, rfl⟩ : ∃ q : Nat, wh = (q : Int) := ⟨wh.toNat, by omega⟩
  rcases (show q % 3 = 0 ∨ q % 3 = 1 ∨ q % 3 = 2 by omega) with hq | hq | hq
  · have tm : Int.tmod (q : Int) 3 = (0 : Nat) := by rw [Int.tmod_eq_emod_of_nonneg (by omega)]; omega
    have hH : G.length = 16 := hG16
    have IH := Lib.hid (gv_size _ hH)
    have KY := Lib.hid (fun W => key_any s HS4.out _ hH W)
    have DK := Lib.hid (fun W => dkey_any s HS4.out _ hH W)
    have KD := Lib.hid (fun W => kind_full s _ hH W)
    have DKD := Lib.hid (fun W => dkind_any s _ hH W)
    obtain ⟨kk, hkk⟩ : ∃ q, kindOf s G = q := ⟨_, rfl⟩
    rw [hkk] at KD DKD
    have hkH : ∃ X, gv G = X := ⟨_, rfl⟩
    clear hkk hH hkH
    go_enter Try.func3, Try.ntmps3
    go_upto_region 7 with (fail)
    refine wp_nm fun W hW => ?_
    have Z : Hid (W.heap[w.heap.size]? = some (.cells (gv G) 23) ∧ Below w.heap.size w W) := by
      rw [← hW]
      exact ⟨has_new _ _, kp_alloc (Below.refl _ _) _⟩
    clear hW
    have hU := own_nil0 W
    have hRW := HRB.out.below Z.out.2
    go_wp2_with (at_builtin; refine wpList_apn _ _ rfl rfl rfl W.heap.size (some ⟨W.heap.size, 0, none⟩) 0 0 [] rfl hU A n c kb rfl (hRW.alloc _) (by have := HN4.out; omega) (by simp) ?_)
    intro A1 c1 w1 ho1 hg1
    have hbW : Below W.heap.size W w1 := (kp_alloc (Below.refl _ _) (.cells #[] 5)).grown hg1 (by simp) (by intro k hk; cases hk; exact Nat.le_refl _)
    have Z1 : Hid (w1.heap[w.heap.size]? = some (.cells (gv G) 23) ∧ Below w.heap.size w w1) := ⟨has_below Z.out.1 hbW, kp_call Z.out.2 hbW⟩
    have O1 : Hid (OwnB w1 W.heap.size A1 n c1 kb) := by simpa using Lib.hid ho1
    clear hU hRW ho1 hg1 hbW Z
    go_wp2_with (refine wpList_load_row rfl _ _ rfl w.heap.size rfl _ _ _ _ Z1.out.1 Try.underlying23 rfl IH.out ?_)
    refine (KY.out w1).mono ?_
    rintro e w2 ⟨A2, n2, c2, r2, rfl, ho2, hr2, hb2⟩
    have Z2 : Hid (w2.heap[w.heap.size]? = some (.cells (gv G) 23) ∧ Below w.heap.size w w2) := ⟨has_below Z1.out.1 hb2, kp_call Z1.out.2 hb2⟩
    have O2 : Hid (OwnB w2 W.heap.size A1 n c1 kb) := O1.out.below hb2 (Nat.le_refl _)
    have U2 := Lib.hid ho2.rb
    have HR2 := Lib.hid hr2
    clear Z1 O1 ho2 hr2 hb2
    go_wp2_with (refine wpList_load_row rfl _ _ rfl w.heap.size rfl _ _ _ _ Z2.out.1 Try.underlying23 rfl IH.out ?_)
    refine (DK.out w2).mono ?_
    rintro e w3 ⟨A3, n3, c3, r3, rfl, ho3, hr3, hb3⟩
    obtain rfl : r2 = r3 := HR2.out.trans hr3.symm
    have Z3 : Hid (w3.heap[w.heap.size]? = some (.cells (gv G) 23) ∧ Below w.heap.size w w3) := ⟨has_below Z2.out.1 hb3, kp_call Z2.out.2 hb3⟩
    have O3 : Hid (OwnB w3 W.heap.size A1 n c1 kb) := O2.out.below hb3 (Nat.le_refl _)
    have U3 := Lib.hid (U2.out.below hb3)
    have V3 := Lib.hid ho3.rb
    clear Z2 O2 U2 HR2 ho3 hr3 hb3
    go_wp2_with fail
    refine (SPL.out A1 c1 _ w3 O3.out).mono ?_
    rintro e w4 ⟨rfl, hb4⟩
    have Z4 : Hid (w4.heap[w.heap.size]? = some (.cells (gv G) 23) ∧ Below w.heap.size w w4) := ⟨has_below Z3.out.1 hb4, kp_call Z3.out.2 hb4⟩
    have O4 := Lib.hid (O3.out.rb.below hb4)
    have U4 := Lib.hid (U3.out.below hb4)
    have V4 := Lib.hid (V3.out.below hb4)
    clear Z3 O3 U3 V3 hb4
    have HONE : Hid ((gv Y).all (·.oneCell') = true) := gv_one Y
    have HSZ : Hid (zA.size = (gv Y).size) := by unfold Hid; rw [gv_len Y HY.out]; rfl
    go_upto_region 11 with (refine wpList_store_row rfl _ _ _ rfl w4.heap.size (gv Y) rfl rfl _ _ (has_new _ _) IY.out HSZ.out HONE.out ?_; rw [World.setRow_alloc_new])
    refine wp_nm fun W5 hW5 => ?_
    have Z5 : Hid (W5.heap[w.heap.size]? = some (.cells (gv G) 23) ∧ W5.heap[w4.heap.size]? = some (.cells (gv Y) 23) ∧ Below w.heap.size w W5) := by
      rw [← hW5]
      exact ⟨has_alloc Z4.out.1 _, has_new _ _, kp_alloc Z4.out.2 _⟩
    have O5 : Hid (RB W5 A1 n kb) := by rw [← hW5]; exact O4.out.alloc _
    have U5 : Hid (RB W5 A2 n2 (if rightL s.data.toList = true then G ++ s.data.toList else [])) := by rw [← hW5]; exact U4.out.alloc _
    have V5 : Hid (RB W5 A3 n3 (if rightL s.data.toList = true then G ++ s.data.toList else [])) := by rw [← hW5]; exact V4.out.alloc _
    obtain ⟨g5, hg5⟩ : ∃ x, w4.heap.size = x := ⟨_, rfl⟩
    rw [hg5] at Z5 ⊢
    clear hW5 Z4 O4 U4 V4 hg5
    go_wp2_with fail
    refine (DSP.out W5 (HRB.out.below Z5.out.2.2)).mono ?_
    rintro e w6 ⟨rfl, hb6⟩
    have Z6 : Hid (w6.heap[w.heap.size]? = some (.cells (gv G) 23) ∧ w6.heap[g5]? = some (.cells (gv Y) 23) ∧ Below w.heap.size w w6) := ⟨has_below Z5.out.1 hb6, has_below Z5.out.2.1 hb6, kp_call Z5.out.2.2 hb6⟩
    have O6 := Lib.hid (O5.out.below hb6)
    have U6 := Lib.hid (U5.out.below hb6)
    have V6 := Lib.hid (V5.out.below hb6)
    clear Z5 O5 U5 V5 hb6
    go_upto_region 12 with (refine wpList_store_row rfl _ _ _ rfl w6.heap.size (gv Y) rfl rfl _ _ (has_new _ _) IY.out HSZ.out HONE.out ?_; rw [World.setRow_alloc_new])
    refine wp_nm fun W7 hW7 => ?_
    have Z7 : Hid (W7.heap[w.heap.size]? = some (.cells (gv G) 23) ∧ W7.heap[g5]? = some (.cells (gv Y) 23) ∧ W7.heap[w6.heap.size]? = some (.cells (gv Y) 23) ∧ Below w.heap.size w W7) := by
      rw [← hW7]
      exact ⟨has_alloc Z6.out.1 _, has_alloc Z6.out.2.1 _, has_new _ _, kp_alloc Z6.out.2.2 _⟩
    have O7 : Hid (RB W7 A1 n kb) := by rw [← hW7]; exact O6.out.alloc _
    have U7 : Hid (RB W7 A2 n2 (if rightL s.data.toList = true then G ++ s.data.toList else [])) := by rw [← hW7]; exact U6.out.alloc _
    have V7 : Hid (RB W7 A3 n3 (if rightL s.data.toList = true then G ++ s.data.toList else [])) := by rw [← hW7]; exact V6.out.alloc _
    obtain ⟨g7, hg7⟩ : ∃ x, w6.heap.size = x := ⟨_, rfl⟩
    rw [hg7] at Z7 ⊢
    have SM1 := Lib.hid (same_any A2 A3 n2 n3 c2 c3 _ _ W7 U7.out V7.out)
    have SM2 := Lib.hid (same_any A1 A n n c1 c _ _ W7 O7.out (HRB.out.below Z7.out.2.2.2))
    rw [show (((if rightL s.data.toList = true then G ++ s.data.toList else []) : List UInt8) == (if rightL s.data.toList = true then G ++ s.data.toList else [])) = true from beq_self_eq_true _] at SM1
    rw [show (kb == kb) = true from beq_self_eq_true _] at SM2
    clear hW7 Z6 O6 U6 V6 hg7 O7 U7 V7 HONE HSZ
    obtain ⟨rr, hrr⟩ : ∃ b, rightL s.data.toList = b := ⟨_, rfl⟩
    rw [hrr] at RT DR
    clear hrr
    go_wp2_with fail
    refine SM1.out.mono ?_
    rintro e w8 ⟨rfl, hw8⟩
    subst w8
    clear SM1
    go_wp2_with (first
      | (refine wpList_load_rowG rfl _ _ rfl g5 rfl _ _ _ _ Z7.out.2.1 Try.underlying23 rfl IY.out ?_)
      | (refine wpList_load_rowG rfl _ _ rfl g7 rfl _ _ _ _ Z7.out.2.2.1 Try.underlying23 rfl IY.out ?_))
    refine SM2.out.mono ?_
    rintro e w9 ⟨rfl, hw9⟩
    subst w9
    clear SM2
    go_wp2_with fail
    refine (RT.out _).mono ?_
    rintro e w10 ⟨rfl, hw10⟩
    subst w10
    go_wp2_with fail
    refine (DR.out _).mono ?_
    rintro e w11 ⟨rfl, hw11⟩
    subst w11
    clear RT DR EYY
    go_wp2_with fail
    have hl := Lib.hid (load_up Z7.out.1 IH.out)
    refine wp_region_up (by kernel_rfl) (by kernel_rfl) ?_
    repeat (first
      | go_big_quiet_step (first
        | (go_at_call 17; exact Up.calls (global_any _))
        | (go_at_call 8; exact Up.calls (dglobal_any _))
        | (go_at_call 18; exact Up.calls (security_any _))
        | (go_at_call 9; exact Up.calls (dsecurity_any _))
        | (go_at_call 19; exact Up.calls (KD.out _))
        | (go_at_call 20; exact Up.calls (DKD.out _))
        | (go_at_call 21; exact up_same (FT.out _))
        | (go_at_call 22; exact up_same (DF.out _))
        | (go_at_call 7; exact Up.calls (WK.out _)))
      | (refine quiet_load rfl _ _ rfl w.heap.size rfl (gv G) hl.out ?_; simp only [Act.put, List.setIfInBounds_toArray, List.set_cons_zero, List.set_cons_succ]))
    refine wpQuiet_nil ?_
    rintro _ ⟨x9, rfl⟩
    clear hl
    go_wp2
    go_ret
    exact ⟨rfl, kp_call Z7.out.2.2.2 x9.b⟩
  · have tm : Int.tmod (q : Int) 3 = (1 : Nat) := by rw [Int.tmod_eq_emod_of_nonneg (by omega)]; omega
    have hH : GLb.length = 16 := rfl
    have IH := Lib.hid (gv_size _ hH)
    have KY := Lib.hid (fun W => key_any s HS4.out _ hH W)
    have DK := Lib.hid (fun W => dkey_any s HS4.out _ hH W)
    have KD := Lib.hid (fun W => kind_full s _ hH W)
    have DKD := Lib.hid (fun W => dkind_any s _ hH W)
    obtain ⟨kk, hkk⟩ : ∃ q, kindOf s GLb = q := ⟨_, rfl⟩
    rw [hkk] at KD DKD
    have hkH : ∃ X, gv GLb = X := ⟨_, rfl⟩
    clear hkk hH hkH
    go_enter Try.func3, Try.ntmps3
    go_wp2_with fail
    refine (dglobal_any _).mono ?_
    rintro e V0 ⟨rfl, hb0⟩
    have hV0 : V0.heap[w.heap.size]? = some (.cells (gv G) 23) := has_below (has_new _ _) hb0
    have hBV0 : Below w.heap.size w V0 := kp_call (kp_alloc (Below.refl _ _) _) hb0
    clear hb0
    rw [← gG_eq]
    have hsz0 : (gv G).size = (gv GLb).size := by rw [gv_len G hG16]; rfl
    have hon0 := gv_one GLb
    go_upto_region 7 with (refine wpList_store_row rfl _ _ _ rfl w.heap.size (gv GLb) rfl rfl _ _ hV0 IH.out hsz0 hon0 ?_)
    refine wp_nm fun W hW => ?_
    have Z : Hid (W.heap[w.heap.size]? = some (.cells (gv GLb) 23) ∧ Below w.heap.size w W) := by
      rw [← hW]
      exact ⟨setRow_heap _ _ _ _ _ _ hV0, below_setRow hBV0 (Nat.le_refl _) _⟩
    clear hW hV0 hBV0 hsz0 hon0
    have hU := own_nil0 W
    have hRW := HRB.out.below Z.out.2
    go_wp2_with (at_builtin; refine wpList_apn _ _ rfl rfl rfl W.heap.size (some ⟨W.heap.size, 0, none⟩) 0 0 [] rfl hU A n c kb rfl (hRW.alloc _) (by have := HN4.out; omega) (by simp) ?_)
    intro A1 c1 w1 ho1 hg1
    have hbW : Below W.heap.size W w1 := (kp_alloc (Below.refl _ _) (.cells #[] 5)).grown hg1 (by simp) (by intro k hk; cases hk; exact Nat.le_refl _)
    have Z1 : Hid (w1.heap[w.heap.size]? = some (.cells (gv GLb) 23) ∧ Below w.heap.size w w1) := ⟨has_below Z.out.1 hbW, kp_call Z.out.2 hbW⟩
    have O1 : Hid (OwnB w1 W.heap.size A1 n c1 kb) := by simpa using Lib.hid ho1
    clear hU hRW ho1 hg1 hbW Z
    go_wp2_with (refine wpList_load_row rfl _ _ rfl w.heap.size rfl _ _ _ _ Z1.out.1 Try.underlying23 rfl IH.out ?_)
    refine (KY.out w1).mono ?_
    rintro e w2 ⟨A2, n2, c2, r2, rfl, ho2, hr2, hb2⟩
    have Z2 : Hid (w2.heap[w.heap.size]? = some (.cells (gv GLb) 23) ∧ Below w.heap.size w w2) := ⟨has_below Z1.out.1 hb2, kp_call Z1.out.2 hb2⟩
    have O2 : Hid (OwnB w2 W.heap.size A1 n c1 kb) := O1.out.below hb2 (Nat.le_refl _)
    have U2 := Lib.hid ho2.rb
    have HR2 := Lib.hid hr2
    clear Z1 O1 ho2 hr2 hb2
    go_wp2_with (refine wpList_load_row rfl _ _ rfl w.heap.size rfl _ _ _ _ Z2.out.1 Try.underlying23 rfl IH.out ?_)
    refine (DK.out w2).mono ?_
    rintro e w3 ⟨A3, n3, c3, r3, rfl, ho3, hr3, hb3⟩
    obtain rfl : r2 = r3 := HR2.out.trans hr3.symm
    have Z3 : Hid (w3.heap[w.heap.size]? = some (.cells (gv GLb) 23) ∧ Below w.heap.size w w3) := ⟨has_below Z2.out.1 hb3, kp_call Z2.out.2 hb3⟩
    have O3 : Hid (OwnB w3 W.heap.size A1 n c1 kb) := O2.out.below hb3 (Nat.le_refl _)
    have U3 := Lib.hid (U2.out.below hb3)
    have V3 := Lib.hid ho3.rb
    clear Z2 O2 U2 HR2 ho3 hr3 hb3
    go_wp2_with fail
    refine (SPL.out A1 c1 _ w3 O3.out).mono ?_
    rintro e w4 ⟨rfl, hb4⟩
    have Z4 : Hid (w4.heap[w.heap.size]? = some (.cells (gv GLb) 23) ∧ Below w.heap.size w w4) := ⟨has_below Z3.out.1 hb4, kp_call Z3.out.2 hb4⟩
    have O4 := Lib.hid (O3.out.rb.below hb4)
    have U4 := Lib.hid (U3.out.below hb4)
    have V4 := Lib.hid (V3.out.below hb4)
    clear Z3 O3 U3 V3 hb4
    have HONE : Hid ((gv Y).all (·.oneCell') = true) := gv_one Y
    have HSZ : Hid (zA.size = (gv Y).size) := by unfold Hid; rw [gv_len Y HY.out]; rfl
    go_upto_region 11 with (refine wpList_store_row rfl _ _ _ rfl w4.heap.size (gv Y) rfl rfl _ _ (has_new _ _) IY.out HSZ.out HONE.out ?_; rw [World.setRow_alloc_new])
    refine wp_nm fun W5 hW5 => ?_
    have Z5 : Hid (W5.heap[w.heap.size]? = some (.cells (gv GLb) 23) ∧ W5.heap[w4.heap.size]? = some (.cells (gv Y) 23) ∧ Below w.heap.size w W5) := by
      rw [← hW5]
      exact ⟨has_alloc Z4.out.1 _, has_new _ _, kp_alloc Z4.out.2 _⟩
    have O5 : Hid (RB W5 A1 n kb) := by rw [← hW5]; exact O4.out.alloc _
    have U5 : Hid (RB W5 A2 n2 (if rightL s.data.toList = true then GLb ++ s.data.toList else [])) := by rw [← hW5]; exact U4.out.alloc _
    have V5 : Hid (RB W5 A3 n3 (if rightL s.data.toList = true then GLb ++ s.data.toList else [])) := by rw [← hW5]; exact V4.out.alloc _
    obtain ⟨g5, hg5⟩ : ∃ x, w4.heap.size = x := ⟨_, rfl⟩
    rw [hg5] at Z5 ⊢
    clear hW5 Z4 O4 U4 V4 hg5
    go_wp2_with fail
    refine (DSP.out W5 (HRB.out.below Z5.out.2.2)).mono ?_
    rintro e w6 ⟨rfl, hb6⟩
    have Z6 : Hid (w6.heap[w.heap.size]? = some (.cells (gv GLb) 23) ∧ w6.heap[g5]? = some (.cells (gv Y) 23) ∧ Below w.heap.size w w6) := ⟨has_below Z5.out.1 hb6, has_below Z5.out.2.1 hb6, kp_call Z5.out.2.2 hb6⟩
    have O6 := Lib.hid (O5.out.below hb6)
    have U6 := Lib.hid (U5.out.below hb6)
    have V6 := Lib.hid (V5.out.below hb6)
    clear Z5 O5 U5 V5 hb6
    go_upto_region 12 with (refine wpList_store_row rfl _ _ _ rfl w6.heap.size (gv Y) rfl rfl _ _ (has_new _ _) IY.out HSZ.out HONE.out ?_; rw [World.setRow_alloc_new])
    refine wp_nm fun W7 hW7 => ?_
    have Z7 : Hid (W7.heap[w.heap.size]? = some (.cells (gv GLb) 23) ∧ W7.heap[g5]? = some (.cells (gv Y) 23) ∧ W7.heap[w6.heap.size]? = some (.cells (gv Y) 23) ∧ Below w.heap.size w W7) := by
      rw [← hW7]
      exact ⟨has_alloc Z6.out.1 _, has_alloc Z6.out.2.1 _, has_new _ _, kp_alloc Z6.out.2.2 _⟩
    have O7 : Hid (RB W7 A1 n kb) := by rw [← hW7]; exact O6.out.alloc _
    have U7 : Hid (RB W7 A2 n2 (if rightL s.data.toList = true then GLb ++ s.data.toList else [])) := by rw [← hW7]; exact U6.out.alloc _
    have V7 : Hid (RB W7 A3 n3 (if rightL s.data.toList = true then GLb ++ s.data.toList else [])) := by rw [← hW7]; exact V6.out.alloc _
    obtain ⟨g7, hg7⟩ : ∃ x, w6.heap.size = x := ⟨_, rfl⟩
    rw [hg7] at Z7 ⊢
    have SM1 := Lib.hid (same_any A2 A3 n2 n3 c2 c3 _ _ W7 U7.out V7.out)
    have SM2 := Lib.hid (same_any A1 A n n c1 c _ _ W7 O7.out (HRB.out.below Z7.out.2.2.2))
    rw [show (((if rightL s.data.toList = true then GLb ++ s.data.toList else []) : List UInt8) == (if rightL s.data.toList = true then GLb ++ s.data.toList else [])) = true from beq_self_eq_true _] at SM1
    rw [show (kb == kb) = true from beq_self_eq_true _] at SM2
    clear hW7 Z6 O6 U6 V6 hg7 O7 U7 V7 HONE HSZ
    obtain ⟨rr, hrr⟩ : ∃ b, rightL s.data.toList = b := ⟨_, rfl⟩
    rw [hrr] at RT DR
    clear hrr
    go_wp2_with fail
    refine SM1.out.mono ?_
    rintro e w8 ⟨rfl, hw8⟩
    subst w8
    clear SM1
    go_wp2_with (first
      | (refine wpList_load_rowG rfl _ _ rfl g5 rfl _ _ _ _ Z7.out.2.1 Try.underlying23 rfl IY.out ?_)
      | (refine wpList_load_rowG rfl _ _ rfl g7 rfl _ _ _ _ Z7.out.2.2.1 Try.underlying23 rfl IY.out ?_))
    refine SM2.out.mono ?_
    rintro e w9 ⟨rfl, hw9⟩
    subst w9
    clear SM2
    go_wp2_with fail
    refine (RT.out _).mono ?_
    rintro e w10 ⟨rfl, hw10⟩
    subst w10
    go_wp2_with fail
    refine (DR.out _).mono ?_
    rintro e w11 ⟨rfl, hw11⟩
    subst w11
    clear RT DR EYY
    go_wp2_with fail
    have hl := Lib.hid (load_up Z7.out.1 IH.out)
    refine wp_region_up (by kernel_rfl) (by kernel_rfl) ?_
    repeat (first
      | go_big_quiet_step (first
        | (go_at_call 17; exact Up.calls (global_any _))
        | (go_at_call 8; exact Up.calls (dglobal_any _))
        | (go_at_call 18; exact Up.calls (security_any _))
        | (go_at_call 9; exact Up.calls (dsecurity_any _))
        | (go_at_call 19; exact Up.calls (KD.out _))
        | (go_at_call 20; exact Up.calls (DKD.out _))
        | (go_at_call 21; exact up_same (FT.out _))
        | (go_at_call 22; exact up_same (DF.out _))
        | (go_at_call 7; exact Up.calls (WK.out _)))
      | (refine quiet_load rfl _ _ rfl w.heap.size rfl (gv GLb) hl.out ?_; simp only [Act.put, List.setIfInBounds_toArray, List.set_cons_zero, List.set_cons_succ]))
    refine wpQuiet_nil ?_
    rintro _ ⟨x9, rfl⟩
    clear hl
    go_wp2
    go_ret
    exact ⟨rfl, kp_call Z7.out.2.2.2 x9.b⟩
  · have tm : Int.tmod (q : Int) 3 = (2 : Nat) := by rw [Int.tmod_eq_emod_of_nonneg (by omega)]; omega
    have hH : SLb.length = 16 := rfl
    have IH := Lib.hid (gv_size _ hH)
    have KY := Lib.hid (fun W => key_any s HS4.out _ hH W)
    have DK := Lib.hid (fun W => dkey_any s HS4.out _ hH W)
    have KD := Lib.hid (fun W => kind_full s _ hH W)
    have DKD := Lib.hid (fun W => dkind_any s _ hH W)
    obtain ⟨kk, hkk⟩ : ∃ q, kindOf s SLb = q := ⟨_, rfl⟩
    rw [hkk] at KD DKD
    have hkH : ∃ X, gv SLb = X := ⟨_, rfl⟩
    clear hkk hH hkH
    go_enter Try.func3, Try.ntmps3
    go_wp2_with fail
    refine (dsecurity_any _).mono ?_
    rintro e V0 ⟨rfl, hb0⟩
    have hV0 : V0.heap[w.heap.size]? = some (.cells (gv G) 23) := has_below (has_new _ _) hb0
    have hBV0 : Below w.heap.size w V0 := kp_call (kp_alloc (Below.refl _ _) _) hb0
    clear hb0
    rw [← gS_eq]
    have hsz0 : (gv G).size = (gv SLb).size := by rw [gv_len G hG16]; rfl
    have hon0 := gv_one SLb
    go_upto_region 7 with (refine wpList_store_row rfl _ _ _ rfl w.heap.size (gv SLb) rfl rfl _ _ hV0 IH.out hsz0 hon0 ?_)
    refine wp_nm fun W hW => ?_
    have Z : Hid (W.heap[w.heap.size]? = some (.cells (gv SLb) 23) ∧ Below w.heap.size w W) := by
      rw [← hW]
      exact ⟨setRow_heap _ _ _ _ _ _ hV0, below_setRow hBV0 (Nat.le_refl _) _⟩
    clear hW hV0 hBV0 hsz0 hon0
    have hU := own_nil0 W
    have hRW := HRB.out.below Z.out.2
    go_wp2_with (at_builtin; refine wpList_apn _ _ rfl rfl rfl W.heap.size (some ⟨W.heap.size, 0, none⟩) 0 0 [] rfl hU A n c kb rfl (hRW.alloc _) (by have := HN4.out; omega) (by simp) ?_)
    intro A1 c1 w1 ho1 hg1
    have hbW : Below W.heap.size W w1 := (kp_alloc (Below.refl _ _) (.cells #[] 5)).grown hg1 (by simp) (by intro k hk; cases hk; exact Nat.le_refl _)
    have Z1 : Hid (w1.heap[w.heap.size]? = some (.cells (gv SLb) 23) ∧ Below w.heap.size w w1) := ⟨has_below Z.out.1 hbW, kp_call Z.out.2 hbW⟩
    have O1 : Hid (OwnB w1 W.heap.size A1 n c1 kb) := by simpa using Lib.hid ho1
    clear hU hRW ho1 hg1 hbW Z
    go_wp2_with (refine wpList_load_row rfl _ _ rfl w.heap.size rfl _ _ _ _ Z1.out.1 Try.underlying23 rfl IH.out ?_)
    refine (KY.out w1).mono ?_
    rintro e w2 ⟨A2, n2, c2, r2, rfl, ho2, hr2, hb2⟩
    have Z2 : Hid (w2.heap[w.heap.size]? = some (.cells (gv SLb) 23) ∧ Below w.heap.size w w2) := ⟨has_below Z1.out.1 hb2, kp_call Z1.out.2 hb2⟩
    have O2 : Hid (OwnB w2 W.heap.size A1 n c1 kb) := O1.out.below hb2 (Nat.le_refl _)
    have U2 := Lib.hid ho2.rb
    have HR2 := Lib.hid hr2
    clear Z1 O1 ho2 hr2 hb2
    go_wp2_with (refine wpList_load_row rfl _ _ rfl w.heap.size rfl _ _ _ _ Z2.out.1 Try.underlying23 rfl IH.out ?_)
    refine (DK.out w2).mono ?_
    rintro e w3 ⟨A3, n3, c3, r3, rfl, ho3, hr3, hb3⟩
    obtain rfl : r2 = r3 := HR2.out.trans hr3.symm
    have Z3 : Hid (w3.heap[w.heap.size]? = some (.cells (gv SLb) 23) ∧ Below w.heap.size w w3) := ⟨has_below Z2.out.1 hb3, kp_call Z2.out.2 hb3⟩
    have O3 : Hid (OwnB w3 W.heap.size A1 n c1 kb) := O2.out.below hb3 (Nat.le_refl _)
    have U3 := Lib.hid (U2.out.below hb3)
    have V3 := Lib.hid ho3.rb
    clear Z2 O2 U2 HR2 ho3 hr3 hb3
    go_wp2_with fail
    refine (SPL.out A1 c1 _ w3 O3.out).mono ?_
    rintro e w4 ⟨rfl, hb4⟩
    have Z4 : Hid (w4.heap[w.heap.size]? = some (.cells (gv SLb) 23) ∧ Below w.heap.size w w4) := ⟨has_below Z3.out.1 hb4, kp_call Z3.out.2 hb4⟩
    have O4 := Lib.hid (O3.out.rb.below hb4)
    have U4 := Lib.hid (U3.out.below hb4)
    have V4 := Lib.hid (V3.out.below hb4)
    clear Z3 O3 U3 V3 hb4
    have HONE : Hid ((gv Y).all (·.oneCell') = true) := gv_one Y
    have HSZ : Hid (zA.size = (gv Y).size) := by unfold Hid; rw [gv_len Y HY.out]; rfl
    go_upto_region 11 with (refine wpList_store_row rfl _ _ _ rfl w4.heap.size (gv Y) rfl rfl _ _ (has_new _ _) IY.out HSZ.out HONE.out ?_; rw [World.setRow_alloc_new])
    refine wp_nm fun W5 hW5 => ?_
    have Z5 : Hid (W5.heap[w.heap.size]? = some (.cells (gv SLb) 23) ∧ W5.heap[w4.heap.size]? = some (.cells (gv Y) 23) ∧ Below w.heap.size w W5) := by
      rw [← hW5]
      exact ⟨has_alloc Z4.out.1 _, has_new _ _, kp_alloc Z4.out.2 _⟩
    have O5 : Hid (RB W5 A1 n kb) := by rw [← hW5]; exact O4.out.alloc _
    have U5 : Hid (RB W5 A2 n2 (if rightL s.data.toList = true then SLb ++ s.data.toList else [])) := by rw [← hW5]; exact U4.out.alloc _
    have V5 : Hid (RB W5 A3 n3 (if rightL s.data.toList = true then SLb ++ s.data.toList else [])) := by rw [← hW5]; exact V4.out.alloc _
    obtain ⟨g5, hg5⟩ : ∃ x, w4.heap.size = x := ⟨_, rfl⟩
    rw [hg5] at Z5 ⊢
    clear hW5 Z4 O4 U4 V4 hg5
    go_wp2_with fail
    refine (DSP.out W5 (HRB.out.below Z5.out.2.2)).mono ?_
    rintro e w6 ⟨rfl, hb6⟩
    have Z6 : Hid (w6.heap[w.heap.size]? = some (.cells (gv SLb) 23) ∧ w6.heap[g5]? = some (.cells (gv Y) 23) ∧ Below w.heap.size w w6) := ⟨has_below Z5.out.1 hb6, has_below Z5.out.2.1 hb6, kp_call Z5.out.2.2 hb6⟩
    have O6 := Lib.hid (O5.out.below hb6)
    have U6 := Lib.hid (U5.out.below hb6)
    have V6 := Lib.hid (V5.out.below hb6)
    clear Z5 O5 U5 V5 hb6
    go_upto_region 12 with (refine wpList_store_row rfl _ _ _ rfl w6.heap.size (gv Y) rfl rfl _ _ (has_new _ _) IY.out HSZ.out HONE.out ?_; rw [World.setRow_alloc_new])
    refine wp_nm fun W7 hW7 => ?_
    have Z7 : Hid (W7.heap[w.heap.size]? = some (.cells (gv SLb) 23) ∧ W7.heap[g5]? = some (.cells (gv Y) 23) ∧ W7.heap[w6.heap.size]? = some (.cells (gv Y) 23) ∧ Below w.heap.size w W7) := by
      rw [← hW7]
      exact ⟨has_alloc Z6.out.1 _, has_alloc Z6.out.2.1 _, has_new _ _, kp_alloc Z6.out.2.2 _⟩
    have O7 : Hid (RB W7 A1 n kb) := by rw [← hW7]; exact O6.out.alloc _
    have U7 : Hid (RB W7 A2 n2 (if rightL s.data.toList = true then SLb ++ s.data.toList else [])) := by rw [← hW7]; exact U6.out.alloc _
    have V7 : Hid (RB W7 A3 n3 (if rightL s.data.toList = true then SLb ++ s.data.toList else [])) := by rw [← hW7]; exact V6.out.alloc _
    obtain ⟨g7, hg7⟩ : ∃ x, w6.heap.size = x := ⟨_, rfl⟩
    rw [hg7] at Z7 ⊢
    have SM1 := Lib.hid (same_any A2 A3 n2 n3 c2 c3 _ _ W7 U7.out V7.out)
    have SM2 := Lib.hid (same_any A1 A n n c1 c _ _ W7 O7.out (HRB.out.below Z7.out.2.2.2))
    rw [show (((if rightL s.data.toList = true then SLb ++ s.data.toList else []) : List UInt8) == (if rightL s.data.toList = true then SLb ++ s.data.toList else [])) = true from beq_self_eq_true _] at SM1
    rw [show (kb == kb) = true from beq_self_eq_true _] at SM2
    clear hW7 Z6 O6 U6 V6 hg7 O7 U7 V7 HONE HSZ
    obtain ⟨rr, hrr⟩ : ∃ b, rightL s.data.toList = b := ⟨_, rfl⟩
    rw [hrr] at RT DR
    clear hrr
    go_wp2_with fail
    refine SM1.out.mono ?_
    rintro e w8 ⟨rfl, hw8⟩
    subst w8
    clear SM1
    go_wp2_with (first
      | (refine wpList_load_rowG rfl _ _ rfl g5 rfl _ _ _ _ Z7.out.2.1 Try.underlying23 rfl IY.out ?_)
      | (refine wpList_load_rowG rfl _ _ rfl g7 rfl _ _ _ _ Z7.out.2.2.1 Try.underlying23 rfl IY.out ?_))
    refine SM2.out.mono ?_
    rintro e w9 ⟨rfl, hw9⟩
    subst w9
    clear SM2
    go_wp2_with fail
    refine (RT.out _).mono ?_
    rintro e w10 ⟨rfl, hw10⟩
    subst w10
    go_wp2_with fail
    refine (DR.out _).mono ?_
    rintro e w11 ⟨rfl, hw11⟩
    subst w11
    clear RT DR EYY
    go_wp2_with fail
    have hl := Lib.hid (load_up Z7.out.1 IH.out)
    refine wp_region_up (by kernel_rfl) (by kernel_rfl) ?_
    repeat (first
      | go_big_quiet_step (first
        | (go_at_call 17; exact Up.calls (global_any _))
        | (go_at_call 8; exact Up.calls (dglobal_any _))
        | (go_at_call 18; exact Up.calls (security_any _))
        | (go_at_call 9; exact Up.calls (dsecurity_any _))
        | (go_at_call 19; exact Up.calls (KD.out _))
        | (go_at_call 20; exact Up.calls (DKD.out _))
        | (go_at_call 21; exact up_same (FT.out _))
        | (go_at_call 22; exact up_same (DF.out _))
        | (go_at_call 7; exact Up.calls (WK.out _)))
      | (refine quiet_load rfl _ _ rfl w.heap.size rfl (gv SLb) hl.out ?_; simp only [Act.put, List.setIfInBounds_toArray, List.set_cons_zero, List.set_cons_succ]))
    refine wpQuiet_nil ?_
    rintro _ ⟨x9, rfl⟩
    clear hl
    go_wp2
    go_ret
    exact ⟨rfl, kp_call Z7.out.2.2.2 x9.b⟩
end Go.Proofs.Ytjcbmgpmlekamaa
