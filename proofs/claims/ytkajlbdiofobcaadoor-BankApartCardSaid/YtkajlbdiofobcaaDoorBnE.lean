/-
  bank: a head's bytes, a record's bytes, the record that stands at a place.
-/
import Derived.Test.YtkajlbdiofobcaaDoorBnD
import Derived.Test.YtkajlbdiofobcaaDoorFlE
import Derived.Lib.SlBytesConst
namespace Go.Proofs.YtkajlbdiofobcaaDoor
open Go.RowKit Go
set_option linter.unusedVariables false
set_option linter.unusedSimpArgs false
set_option maxRecDepth 100000
theorem rb_sub {w : World} {g o n : Nat} {bs : List UInt8} (h : RB w (some ⟨g, o, none⟩) n bs) (a k : Nat) (hk : a + k ≤ n) : RB w (some ⟨g, o + a, none⟩) k (cut bs a k) := by
  have h1 := (h.2.drop_ a).take_ k
  refine ⟨cut_len _ _ _ (by rw [h.1]; exact hk), ?_⟩
  have h2 : (some (⟨g, o, none⟩ : Addr)).map (·.add a) = some ⟨g, o + a, none⟩ := by simp [Addr.add]
  rw [h2] at h1
  exact h1
theorem tn_nat (x : BitVec 32) : tn x = ((x.toNat : Nat) : Int) := rfl
theorem wrap_tn (x : BitVec 32) : IntKind.u64.wrap (tn x) = ((x.toNat : Nat) : Int) := by
  rw [tn_nat, IntKind.wrap_u64]; have := x.isLt; omega
theorem headOf_any (gen : Nat) (hg : gen < 4294967296) (w : World) (ht : Tabs w) :
    Calls Tryd.prog 43 #[.int .u32 (gen : Int)] w (Fresh w (headG gen)) := by
  have HT := Lib.hid ht
  have e1 : IntKind.u64.wrap (gen : Int) = (gen : Int) := by rw [IntKind.wrap_u64]; omega
  have kc := fun (w : World) (C : Array Value) (n c : Nat) => Lib.run_convert_bytes_const (P := Tryd.prog) w 22 5 C n c Tryd.underlying22 Tryd.underlying5
  clear ht
  go_enter Tryd.func43, Tryd.ntmps43
  go_wp2_with fail
  clear kc
  refine calls_nm fun W hW => ?_
  have hk : W.heap[w.heap.size]? = some (.cells #[.int .u8 76, .int .u8 78, .int .u8 84, .int .u8 76] 5 (4, 5)) := by rw [← hW]; exact has_new _ _
  have HB : Hid (Below w.heap.size w W) := by rw [← hW]; exact kp_alloc (Below.refl _ _) _
  have hR : RB W (some ⟨w.heap.size, 0, none⟩) 4 [76, 78, 84, 76] := rb_block hk rfl rfl
  have P := put_ok (some ⟨w.heap.size, 0, none⟩) 4 4 [76, 78, 84, 76] gen 4 W hR (HT.out.below HB.out).oct (by omega) (by decide) (by omega)
  clear hW hk hR
  refine P.mono ?_
  clear P
  rintro e w1 ⟨A1, n1, c1, rfl, ho1, hb1⟩
  have HO1 := Lib.hid ho1
  have HB1 := Lib.hid (kp_call HB.out hb1)
  have hl1 := ho1.len
  rw [List.length_append, leB_len] at hl1
  have hn1 : n1 = 8 := by simp at hl1; omega
  subst hn1
  have SM := Lib.hid (sum_any A1 8 c1 _ w1 (HT.out.below HB1.out).crc ho1.rb (by omega))
  obtain ⟨sm, hsm⟩ : ∃ sm, ext 0#32 ([76, 78, 84, 76] ++ leB gen 4) = sm := ⟨_, rfl⟩
  have e2 := wrap_tn sm
  have P2 := Lib.hid (put_ok A1 8 c1 _ sm.toNat 4 w1 ho1.rb (HT.out.below HB1.out).oct (by omega) (by decide) (by have := sm.isLt; omega))
  have HG : Hid (headG gen = ([76, 78, 84, 76] ++ leB gen 4) ++ leB sm.toNat 4) := by unfold headG; rw [hsm]; rfl
  rw [hsm] at SM
  clear ho1 hb1 HB hl1 hsm
  go_wp2_with fail
  refine SM.out.mono ?_
  rintro e w2 ⟨rfl, rfl⟩
  clear SM
  go_wp2_with fail
  refine P2.out.mono ?_
  rintro e w3 ⟨A3, n3, c3, rfl, ho3, hb3⟩
  have HF : Hid (OwnB w3 w.heap.size A3 n3 c3 (headG gen) ∧ Below w.heap.size w w3) := ⟨by rw [HG.out]; exact ho3.lower HB1.out.size, kp_call HB1.out hb3⟩
  clear ho3 hb3
  go_wp2
  go_ret
  exact ⟨A3, n3, c3, rfl, HF.out.1, HF.out.2⟩
/-- The sum of a record, by its head and its body. -/
theorem bsum_any (g o n c : Nat) (hd : List UInt8) (B : Option Addr) (m d : Nat) (body : List UInt8) (w : World) (ht : Tabs w) (hR : RB w (some ⟨g, o, none⟩) n hd) (hB : RB w B m body) (hn : 8 ≤ n) (hc : n ≤ c) (hc9 : c ≤ 9223372036854775807) (hm : m ≤ 9223372036854775807) :
    Calls Tryd.prog 53 #[.slice (some ⟨g, o, none⟩) n c, .slice B m d] w fun e w' => e = .returned (wv (sumR hd body)) ∧ w' = w := by
  have hs := rb_sub hR 1 7 (by omega)
  have S1 := Lib.hid (sum_any (some ⟨g, o + 1, none⟩) 7 (c - 1) _ w ht.crc hs (by omega))
  have S2 := Lib.hid (extend_any (ext 0#32 (cut hd 1 7)) B m d body w ht.crc hB hm)
  have i1 : ¬ c = 1 := by omega
  have i2 : (8 : Int) ≤ (c : Int) := by omega
  have i3 : (8 : Int) ≤ (n : Int) := by omega
  have HSM : Hid (sumR hd body = ext (ext 0#32 (cut hd 1 7)) body) := rfl
  rw [HSM.out]
  generalize ext 0#32 (cut hd 1 7) = s1 at *
  generalize ext s1 body = s2 at *
  clear ht hR hB hs HSM
  go_enter Tryd.func53, Tryd.ntmps53
  go_wp2_with fail
  refine S1.out.mono ?_
  rintro e w1 ⟨rfl, rfl⟩
  go_wp2_with fail
  refine S2.out.mono ?_
  rintro e w1 ⟨rfl, rfl⟩
  go_wp2
  go_ret
  exact ⟨rfl, rfl⟩
/-- A record's bytes, with the state fe. -/
theorem recordOf_any (A B : Option Addr) (n c m d : Nat) (key val : List UInt8) (w : World) (ht : Tabs w) (hA : RB w A n key) (hB : RB w B m val) (hn : n ≤ 255) (hm : m ≤ 65536) :
    Calls Tryd.prog 40 #[.slice A n c, .slice B m d] w (Fresh w (254 :: tailL key val)) := by
  have HT := Lib.hid ht
  have HA := Lib.hid hA
  have HB := Lib.hid hB
  have e1 : IntKind.u64.wrap (n : Int) = (n : Int) := by rw [IntKind.wrap_u64]; omega
  have e2 : IntKind.u64.wrap (m : Int) = (m : Int) := by rw [IntKind.wrap_u64]; omega
  clear ht hA hB
  go_enter Tryd.func40, Tryd.ntmps40
  go_wp2_with (at_builtin; refine wpList_apn _ _ rfl rfl rfl w.heap.size (some ⟨w.heap.size, 0, none⟩) 0 0 [] rfl (own_nil w) A n c key rfl (HA.out.alloc _) (by omega) (by simp) ?_)
  intro A1 c1 w1 ho1 hg1
  have hb1 : Below w.heap.size w w1 := (kp_alloc (Below.refl _ _) _).grown hg1 (by simp) (fun g hg => by have h2 : some w.heap.size = some g := hg; injection h2 with h2; omega)
  have HO1 : Hid (OwnB w1 w.heap.size A1 n c1 key) := Lib.hid (by simpa using ho1)
  have HB1 := Lib.hid hb1
  clear ho1 hg1 hb1
  go_wp2_with (at_builtin; refine wpList_apn _ _ rfl rfl rfl w.heap.size A1 n c1 key rfl HO1.out B m d val rfl (HB.out.below HB1.out) (by omega) HB1.out.size ?_)
  intro A2 c2 w2 ho2 hg2
  have hb2 : Below w.heap.size w w2 := HB1.out.grown hg2 HB1.out.size (fun g hg => (HO1.out.blk_lt hg).1)
  have HO2 := Lib.hid ho2
  have HB2 := Lib.hid hb2
  clear ho2 hg2 hb2 HO1 HB1
  go_wp2_with fail
  refine calls_nm fun W hW => ?_
  have hk : W.heap[w2.heap.size]? = some (.cells #[.int .u8 254, .int .u8 165] 5) := by rw [← hW]; exact has_new _ _
  have hbW : Below w2.heap.size w2 W := by rw [← hW]; exact kp_alloc (Below.refl _ _) _
  have HBW := Lib.hid (kp_call HB2.out hbW)
  have HR2 := Lib.hid (HO2.out.rb.below hbW)
  have P := put_ok (some ⟨w2.heap.size, 0, none⟩) 2 2 [254, 165] n 2 W (rb_block hk rfl rfl) (HT.out.below HBW.out).oct (by omega) (by decide) (by omega)
  have hnk := HA.out.1
  have hmv := HB.out.1
  clear hW hk hbW HB2 HO2
  refine P.mono ?_
  clear P
  rintro e w3 ⟨A3, n3, c3, rfl, ho3, hb3⟩
  obtain rfl : n3 = 4 := by have := ho3.len; rw [List.length_append, leB_len] at this; simp at this; omega
  have HB3 := Lib.hid (kp_call HBW.out hb3)
  have HR3 := Lib.hid (HR2.out.below hb3)
  have P2 := Lib.hid (put_ok A3 4 c3 _ m 4 w3 ho3.rb (HT.out.below HB3.out).oct (by omega) (by decide) (by omega))
  clear ho3 hb3 HBW HR2
  go_wp2_with fail
  refine P2.out.mono ?_
  rintro e w4 ⟨A4, n4, c4, rfl, ho4, hb4⟩
  have hL4 : ([254, 165] ++ leB n 2) ++ leB m 4 = 254 :: headL n m := by unfold headL; simp
  rw [hL4] at ho4
  obtain rfl : n4 = 8 := by have := ho4.len; rw [List.length_cons, headL_len] at this; omega
  have HB4 := Lib.hid (kp_call HB3.out hb4)
  have HR4 := Lib.hid (HR3.out.below hb4)
  have HO4 := Lib.hid ho4
  obtain ⟨g4, hg4, _, _⟩ := ho4.shape (by have := ho4.cap.1; omega)
  subst hg4
  have hcap := ho4.cap
  have hmx : c4 ≤ 9223372036854775807 := by have := hcap.2; unfold maxLen at this; omega
  have hs1 : cut (254 :: headL n m) 1 7 = headL n m := by
    unfold cut
    rw [List.drop_succ_cons, List.drop_zero, List.take_of_length_le (by rw [headL_len]; omega)]
  obtain ⟨sm, hsm⟩ : ∃ sm, ext 0#32 (headL key.length val.length ++ key ++ val) = sm := ⟨_, rfl⟩
  have hsum : sumR (254 :: headL n m) (key ++ val) = sm := by
    unfold sumR
    rw [hs1, ext_append, ← hnk, ← hmv, ← hsm, List.append_assoc]
  have BS := bsum_any g4 0 8 c4 (254 :: headL n m) A2 (n + m) c2 (key ++ val) w4 (HT.out.below HB4.out) ho4.rb HR4.out (by omega) (by omega) (by omega) (by omega)
  rw [hsum] at BS
  have BS := Lib.hid BS
  have e3 := wrap_tn sm
  have P3 := Lib.hid (put_ok (some ⟨g4, 0, none⟩) 8 c4 _ sm.toNat 4 w4 ho4.rb (HT.out.below HB4.out).oct (by omega) (by decide) (by have := sm.isLt; omega))
  have HTL : Hid (254 :: tailL key val = (254 :: headL n m ++ leB sm.toNat 4) ++ (key ++ val)) := by
    unfold Hid tailL
    rw [hsm, hnk, hmv]
    simp
  clear ho4 hb4 P2 HR3 HB3 hL4 hs1 hsm hsum hcap hmx
  go_wp2_with fail
  refine BS.out.mono ?_
  rintro e w5 ⟨rfl, rfl⟩
  clear BS
  go_wp2_with fail
  refine P3.out.mono ?_
  rintro e w6 ⟨A6, n6, c6, rfl, ho6, hb6⟩
  obtain rfl : n6 = 12 := by have := ho6.len; rw [List.length_append, List.length_cons, headL_len, leB_len] at this; omega
  have HB6 := Lib.hid (kp_call HB4.out hb6)
  have HR6 := Lib.hid (HR4.out.below hb6)
  have HO6 := Lib.hid (ho6.lower HB4.out.size)
  clear ho6 hb6 P3 HO4 HR4
  go_wp2_with (at_builtin; refine wpList_apn _ _ rfl rfl rfl w.heap.size A6 12 c6 _ rfl HO6.out A2 (n + m) c2 (key ++ val) rfl HR6.out (by omega) HB6.out.size ?_)
  intro A7 c7 w7 ho7 hg7
  have HF : Hid (OwnB w7 w.heap.size A7 (12 + (n + m)) c7 (254 :: tailL key val) ∧ Below w.heap.size w w7) := ⟨by rw [HTL.out]; exact ho7, HB6.out.grown hg7 HB6.out.size (fun g hg => (HO6.out.blk_lt hg).1)⟩
  clear ho7 hg7
  go_wp2
  go_ret
  exact ⟨A7, _, c7, rfl, HF.out.1, HF.out.2⟩
end Go.Proofs.YtkajlbdiofobcaaDoor
