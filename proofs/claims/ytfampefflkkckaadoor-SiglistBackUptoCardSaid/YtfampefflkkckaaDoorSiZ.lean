/-
  siglist: the document's bytesOf and Write (made by genSi2.py).
-/
import Derived.Test.YtfampefflkkckaaDoorSiW
import Derived.Test.YtfampefflkkckaaDoorOctG1
namespace Go.Proofs.YtfampefflkkckaaDoor
open Go.RowKit Go
set_option linter.unusedVariables false
set_option linter.unusedSimpArgs false
set_option maxRecDepth 100000

theorem owner_rb {W : World} {b off : Nat} {z : IM} (hr : W.rangeAt b off z.cells) (ho : z.o.length = 16) (hb : b < W.heap.size) : RB W (some ⟨b, off, none⟩) 16 z.o := by
  refine ⟨ho, fun hne => ⟨b, off, rfl, hb, fun k hk => ?_⟩⟩
  refine hr k (bv z.o[k]) ?_
  unfold IM.cells itmC
  rw [List.toList_toArray, List.getElem?_append_left (by rw [List.length_map]; exact hk), List.getElem?_map, List.getElem?_eq_getElem hk]
  rfl
set_option maxHeartbeats 8000000 in
theorem dbytesOf_any (k : UInt8) (A : Option Addr) (n c : Nat) (zs : List IM) (w : World) (hI : ItemsZ w A n zs) (hr : rightL (k, zs.map IM.itm) = true) (hc : n ≤ c) (hcm : c ≤ 9223372036854775807) (hn : n ≤ 2000000) :
    Calls Tryd.prog 31 #[.agg #[.int .u8 (k.toNat : Int), .slice A n c]] w (Fresh w (lstB (k, zs.map IM.itm))) := by
  have hl := hI.len
  have hd := right_dl hr
  have hpos := lst_items hr
  have hE := right_each hr
  obtain ⟨d, hdd⟩ : ∃ d, dl (k, zs.map IM.itm) = d := ⟨_, rfl⟩
  rw [hdd] at hd hE
  simp only [List.length_map] at hpos
  have HI := Lib.hid hI
  have HDD := Lib.hid (And.intro hdd (And.intro hE hl))
  have HR := Lib.hid hr
  clear hI hdd hE hr
  go_enter Tryd.func31, Tryd.ntmps31
  go_upto_region 1 with fail
  refine wp_nm fun W1 hW1 => ?_
  have k1 : W1.heap[w.heap.size]? = some (.cells #[.int .u8 (k.toNat : Int), .slice A n c] 41) := by rw [← hW1]; exact has_new w _
  have hb1 : Below w.heap.size w W1 := by rw [← hW1]; exact kp_alloc (Below.refl _ _) _
  have K1 := Lib.hid (And.intro k1 (And.intro hb1 hb1.size))
  clear hW1 k1 hb1
  obtain ⟨z0, b, off, hg0, hA, hbl, hr0, hz0⟩ := (HI.out.below K1.out.2.1).at_ (i := 0) (by omega)
  have q0 : W1.cell? ⟨b, off + 16, none⟩ = some (.slice z0.a z0.n z0.c) := by
    have := data_cell hr0 hz0.o
    rw [show off + 0 * 17 + 16 = off + 16 by omega] at this
    exact this
  subst hA
  obtain rfl : d = z0.n := by
    rw [← HDD.out.1, ← hz0.r.1]
    show ((zs.map IM.itm).headD ([], [])).2.length = z0.d.length
    match zs, hg0 with
    | y :: ys, h1 =>
      injection h1 with h1
      subst h1
      rfl
  obtain ⟨s, hs⟩ : ∃ s, s = 16 + z0.n := ⟨_, rfl⟩
  obtain ⟨q, hq⟩ : ∃ q, q = s * n := ⟨_, rfl⟩
  obtain ⟨t, ht⟩ : ∃ t, t = 28 + q := ⟨_, rfl⟩
  have hqb : q ≤ 8208 * 2000000 := by rw [hq]; exact Nat.mul_le_mul (by omega) hn
  have w1 : IntKind.i64.wrap (16 + (z0.n : Int)) = (s : Int) := by rw [show (16 : Int) + (z0.n : Int) = (s : Int) by omega]; exact IntWalk.i64_in _ (by omega)
  have w2 : IntKind.i64.wrap ((s : Int) * (n : Int)) = (q : Int) := by rw [show (s : Int) * (n : Int) = (q : Int) by rw [hq]; simp]; exact IntWalk.i64_in _ (by omega)
  have w3 : IntKind.i64.wrap (28 + (q : Int)) = (t : Int) := by rw [show (28 : Int) + (q : Int) = (t : Int) by omega]; exact IntWalk.i64_in _ (by omega)
  have w4 : IntKind.u64.wrap (t : Int) = (t : Int) := IntWalk.u64_in _ (by omega)
  have w5 : IntKind.u64.wrap (s : Int) = (s : Int) := IntWalk.u64_in _ (by omega)
  have l0 : 0 < n := by omega
  have HST : Hid (headB k z0.n n = guidL k ++ (leB t 4 ++ ([0, 0, 0, 0] ++ leB s 4))) := by unfold Hid headB; rw [ht, hq, hs]
  have HTB := Lib.hid (And.intro (show t < 18446744073709551616 by omega) (And.intro (show s < 18446744073709551616 by omega) (And.intro hs hd)))
  have PUT : Hid (∀ (W : World) (A : Option Addr) (m c x : Nat) (bs : List UInt8), RB W A m bs → m ≤ 1000000000 → x < 18446744073709551616 → Calls Tryd.prog 43 #[.slice A m c, .int .u64 x, .int .i64 4] W (Fresh W (bs ++ leB x 4))) := fun W A m c x bs h1 h2 h3 => refPut_any A m c bs x 4 W h1 h2 h3
  have NM := Lib.hid (fun W => name_any k W)
  have HGL := Lib.hid (guid_kind (right_kind HR.out)).1
  clear hs hq ht hqb
  obtain ⟨e0, e1⟩ := cells_2 K1.out.1
  obtain ⟨e2, e3⟩ := cells_2 (has_alloc K1.out.1 (.cells #[] 5))
  go_wp2_with fail
  refine calls_nm fun W2 hW2 => ?_
  have O2 : Hid (OwnB W2 W1.heap.size (some ⟨W1.heap.size, 0, none⟩) 0 0 []) := by unfold Hid; rw [← hW2]; exact own_nil W1
  have B2 : Hid (Below W1.heap.size W1 W2) := by unfold Hid; rw [← hW2]; exact kp_alloc (Below.refl _ _) _
  clear hW2 e0 e1 e2 e3 q0
  refine (NM.out W2).mono ?_
  clear NM
  rintro e W3 ⟨A3, n3, c3, rfl, ho3, hb3⟩
  obtain rfl : 16 = n3 := HGL.out.symm.trans ho3.len
  have O3 := Lib.hid (O2.out.below hb3 (Nat.le_refl _))
  have R3 := Lib.hid ho3.rb
  have B3 := Lib.hid (kp_call B2.out hb3)
  clear hb3 ho3 O2 B2
  go_wp2_with (at_builtin; refine wpList_apn _ _ rfl rfl rfl W1.heap.size (some ⟨W1.heap.size, 0, none⟩) 0 0 [] rfl O3.out A3 16 c3 _ rfl R3.out (by omega) B3.out.size ?_)
  intro A4 c4 W4 ho4 hg4
  have B4 := Lib.hid (B3.out.grown hg4 B3.out.size (fun k e => (O3.out.blk_lt e).1))
  have O4 : Hid (OwnB W4 W1.heap.size A4 16 c4 (guidL k)) := by unfold Hid; simpa using ho4
  have e1 := kp_cell B4.out (cells_2 K1.out.1).2
  clear hg4 ho4 B3 O3 R3
  go_wp2_with fail
  refine (PUT.out W4 A4 16 c4 t _ O4.out.rb (by omega) HTB.out.1).mono ?_
  rintro e W5 ⟨A5, n5, c5, rfl, ho5, hb5⟩
  obtain rfl : 20 = n5 := by have := ho5.len; rw [List.length_append, HGL.out, leB_len] at this; exact this
  have B5 := Lib.hid (kp_call B4.out hb5)
  have O5 := Lib.hid (ho5.lower B4.out.size)
  clear hb5 ho5 B4 O4 e1
  go_wp2_with fail
  refine (PUT.out W5 A5 20 c5 0 _ O5.out.rb (by omega) (by omega)).mono ?_
  rintro e W6 ⟨A6, n6, c6, rfl, ho6, hb6⟩
  obtain rfl : 24 = n6 := by have := ho6.len; rw [List.length_append, List.length_append, HGL.out, leB_len, leB_len] at this; exact this
  have B6 := Lib.hid (kp_call B5.out hb6)
  have O6 := Lib.hid (ho6.lower B5.out.size)
  clear hb6 ho6 B5 O5
  go_wp2_with fail
  refine (PUT.out W6 A6 24 c6 s _ O6.out.rb (by omega) HTB.out.2.1).mono ?_
  rintro e W7 ⟨A7, n7, c7, rfl, ho7, hb7⟩
  obtain rfl : 28 = n7 := by have := ho7.len; rw [List.length_append, List.length_append, List.length_append, HGL.out, leB_len, leB_len, leB_len] at this; exact this
  have B7 := Lib.hid (kp_call B6.out hb7)
  have O7 : Hid (OwnB W7 W1.heap.size A7 28 c7 (headB k z0.n n)) := by
    have h9 := ho7.lower B6.out.size
    rw [show leB 0 4 = [0, 0, 0, 0] by decide] at h9
    unfold Hid
    rw [HST.out]
    simpa [List.append_assoc] using h9
  clear hb7 ho7 B6 O6 HST PUT
  have HH28 := Lib.hid O7.out.len
  obtain ⟨hd, hhd⟩ : ∃ hd, headB k z0.n n = hd := ⟨_, rfl⟩
  rw [hhd] at O7 HH28
  have HHD := Lib.hid hhd
  clear hhd
  go_wp2
  clear w1 w2 w3 w4 w5
  go_loopw [4, 5] (fun u v wl => ∃ (i : Nat) (A' : Option Addr) (n' c' : Nat), u = .slice A' n' c' ∧ v = .int .i64 (i : Int) ∧ i ≤ n ∧ Hid (OwnB wl W1.heap.size A' n' c' (hd ++ bodyL ((zs.take i).map IM.itm)) ∧ Below W1.heap.size W1 wl)) (fun _ v _ => (n - (intOf v).toNat))
  case atStart => exact ⟨0, A7, 28, c7, rfl, rfl, Nat.zero_le _, by rw [List.take_zero]; exact (List.append_nil hd).symm ▸ O7.out, B7.out⟩
  case round =>
    obtain ⟨i, A', n', c', rfl, rfl, hi, hS⟩ := hrel
    have e1 := kp_cell hS.2 (cells_2 K1.out.1).2
    have hlen : n' = 28 + (16 + z0.n) * i := by
      have h1 := hS.1.len
      have h3 : (bodyL ((zs.take i).map IM.itm)).length = (16 + z0.n) * ((zs.take i).map IM.itm).length := body_len z0.n _ (fun y hy => by
        obtain ⟨z, hz, rfl⟩ := List.mem_map.1 hy
        have hz := List.mem_of_mem_take hz
        exact ⟨(HI.out.each z hz).o, (HDD.out.2.1 z.itm (List.mem_map_of_mem hz)).2⟩)
      rw [List.length_map, List.length_take, HDD.out.2.2, Nat.min_eq_left hi] at h3
      rw [List.length_append, h3, HH28.out] at h1
      omega
    have hbn : (16 + z0.n) * i ≤ 8208 * 2000000 := Nat.mul_le_mul (by omega) (by omega)
    have hlim : n' ≤ 200000000000 := by omega
    clear hlen hbn
    rcases Nat.lt_or_ge i n with hlt | hge
    · have l1 : decide ((i : Int) < (n : Int)) = true := decide_eq_true (by omega)
      have l2 : decide (i < n) = true := decide_eq_true hlt
      obtain ⟨z, b9, off9, hg, hA, hbl, hr, hz1⟩ := (HI.out.below K1.out.2.1).at_ hlt
      injection hA with hA
      injection hA with e3 e4
      subst e3; subst e4
      have hzn : z.n ≤ 8192 := by
        have h1 := (HDD.out.2.1 z.itm (List.mem_map_of_mem (List.mem_of_getElem? hg))).2
        have h2 := hz1.r.1
        have h3 := HTB.out.2.2.2.2
        have h4 : z.d.length = z0.n := h1
        omega
      have R1 := Lib.hid ((owner_rb hr hz1.o hbl).below hS.2)
      have r2 := kp_cell hS.2 (data_cell hr hz1.o)
      have K := Lib.hid (And.intro hz1 (And.intro hg hS))
      have l3 : IntKind.i64.wrap ((i : Int) + 1) = ((i + 1 : Nat) : Int) := IntWalk.i64_in _ (by omega)
      clear hr hg hS hz1 hbl hi
      go_wp2_with (at_builtin; refine wpList_apn _ _ rfl rfl rfl W1.heap.size A' n' c' _ rfl K.out.2.2.1 (some ⟨b, off + i * 17, none⟩) 16 16 _ rfl R1.out (by omega) K.out.2.2.2.size ?_)
      intro A8 c8 W8 ho8 hg8
      have B8 := Lib.hid (K.out.2.2.2.grown hg8 K.out.2.2.2.size (fun k e => (K.out.2.2.1.blk_lt e).1))
      have O8 := Lib.hid ho8
      have f1 := kp_cell B8.out (cells_2 K1.out.1).2
      have f2 : W8.cell? ⟨b, off + i * 17 + 16, none⟩ = some (.slice z.a z.n z.c) := by
        obtain ⟨z', b', off', hg', hA', hbl', hr', hz'⟩ := (HI.out.below K1.out.2.1).at_ hlt
        injection hA' with hA'
        injection hA' with e3 e4
        subst e3; subst e4
        rw [K.out.2.1] at hg'
        injection hg' with hg'
        subst hg'
        exact kp_cell B8.out (data_cell hr' hz'.o)
      have R2 := Lib.hid ((K.out.1.r).below B8.out)
      clear ho8 hg8 e1 r2 R1
      go_wp2_with (at_builtin; refine wpList_apn _ _ rfl rfl rfl W1.heap.size A8 (n' + 16) c8 _ rfl O8.out z.a z.n z.c _ rfl R2.out (by omega) B8.out.size ?_)
      intro A9 c9 W9 ho9 hg9
      have B9 := Lib.hid (B8.out.grown hg9 B8.out.size (fun k e => (O8.out.blk_lt e).1))
      have O9 := Lib.hid ho9
      clear ho9 hg9 f1 f2 R2
      go_wp2
      go_roundw
      case rel => exact ⟨i + 1, A9, n' + 16 + z.n, c9, rfl, rfl, hlt, by rw [body_take zs i z K.out.2.1]; simpa [List.append_assoc] using O9.out, B9.out⟩
      case measure => simp [intOf]; omega
    · have hin : i = n := by omega
      have l1 : decide ((i : Int) < (n : Int)) = false := decide_eq_false (by omega)
      have l2 : decide (i < n) = false := decide_eq_false (by omega)
      have K := Lib.hid hS
      have HIN := Lib.hid hin
      have HFIN : Hid (lstB (k, zs.map IM.itm) = headB k z0.n n ++ bodyL ((zs.take i).map IM.itm)) := by
        unfold Hid
        rw [lst_head, HDD.out.1, List.length_map, HDD.out.2.2, hin, List.take_of_length_le (by rw [HDD.out.2.2]; exact Nat.le_refl _)]
      clear hS hin hge hi
      go_wp2
      go_ret
      refine ⟨A', n', c', rfl, ?_, K1.out.2.1.trans (K.out.2.mono K1.out.2.2)⟩
      rw [HFIN.out, HHD.out]
      exact K.out.1.lower K1.out.2.2
end Go.Proofs.YtfampefflkkckaaDoor
