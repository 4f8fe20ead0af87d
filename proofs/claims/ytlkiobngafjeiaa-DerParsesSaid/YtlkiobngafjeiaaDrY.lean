/-
  der: the document's Write, Join, Int, PutInt, Bits.
-/
import Derived.Test.YtlkiobngafjeiaaDrC
import Derived.Test.YtlkiobngafjeiaaDrB
import Derived.Test.YtlkiobngafjeiaaDrX
import Derived.Test.YtlkiobngafjeiaaSg
import Derived.Test.YtlkiobngafjeiaaAt
namespace Go.Proofs.Ytlkiobngafjeiaa
open Go.RowKit Go
set_option linter.unusedVariables false
set_option linter.unusedSimpArgs false
set_option maxRecDepth 100000
/-! ### Write -/
theorem rwrite_short (tag : UInt8) (A : Option Addr) (n c : Nat) (bs : List UInt8) (w : World) (hR : RB w A n bs) (hn : n < 128) :
    Calls Try.prog 39 #[.int .u8 (tag.toNat : Int), .slice A n c] w (Fresh w (wrQ tag bs)) := by
  have hw : wrQ tag bs = ([tag] ++ [UInt8.ofNat n]) ++ bs := by unfold wrQ; rw [hR.1, if_pos hn]; rfl
  have HW := Lib.hid hw
  obtain ⟨q, hq⟩ : ∃ q : UInt8, UInt8.ofNat n = q := ⟨_, rfl⟩
  have hq2 : (n : Int) = (q.toNat : Int) := by rw [← hq, UInt8.toNat_ofNat']; omega
  rw [hq] at HW
  have hqw : IntKind.u8.wrap (n : Int) = (q.toNat : Int) := by rw [IntKind.wrap_u8]; omega
  have hd : decide ((n : Int) < 128) = true := by simp; omega
  have HR := Lib.hid hR
  have H2 := Lib.hid hq2
  clear hw hq hR hq2
  go_enter Try.func39, Try.ntmps39
  go_wp2_with (at_builtin; refine wpList_apn _ _ rfl rfl rfl w.heap.size (some ⟨w.heap.size, 0, none⟩) 1 1 [tag] rfl ((own_lit w [tag] 1 _ rfl rfl (by omega)).alloc _) (some ⟨w.heap.size + 1, 0, none⟩) 1 1 [q] rfl (by have := (own_lit (w.alloc (.cells #[.int .u8 (tag.toNat : Int)] 5)) [q] 1 #[.int .u8 (q.toNat : Int)] rfl rfl (by omega)).rb; rw [World.size_alloc] at this; exact this) (by omega) (by simp; omega) ?_)
  intro A1 c1 w1 ho1 hg1
  have hb1 : Below w.heap.size w w1 := (kp_alloc (kp_alloc (Below.refl _ _) _) _).grown hg1 (by simp; omega) (fun g hg => by injection hg with hg; subst hg; exact Nat.le_refl _)
  go_wp2_with (at_builtin; refine wpList_apn _ _ rfl rfl rfl w.heap.size A1 2 c1 _ rfl ho1 A n c bs rfl (HR.out.below hb1) (by omega) hb1.size ?_)
  intro A2 c2 w2 ho2 hg2
  go_wp2
  go_ret
  exact ⟨A2, 2 + n, c2, rfl, by rw [HW.out]; exact ho2, hb1.grown hg2 hb1.size (fun g hg => (ho1.blk_lt hg).1)⟩
set_option maxHeartbeats 1000000 in
theorem rwrite_long (tag : UInt8) (A : Option Addr) (n c : Nat) (bs : List UInt8) (w : World) (hR : RB w A n bs) (hn : 128 ≤ n) (hn2 : n ≤ 1000000000) :
    Calls Try.prog 39 #[.int .u8 (tag.toNat : Int), .slice A n c] w (Fresh w (wrQ tag bs)) := by
  have hw : wrQ tag bs = tag :: UInt8.ofNat (128 + (lenB n).length) :: (lenB n ++ bs) := by unfold wrQ; rw [hR.1, if_neg (by omega)]
  have HW := Lib.hid hw
  have hL4 := lenB_len 4 n (by omega)
  have HL := Lib.hid hL4
  have HR := Lib.hid hR
  have hd : decide ((n : Int) < 128) = false := by simp; omega
  clear hw hL4 hR
  go_enter Try.func39, Try.ntmps39
  go_wp2
  go_loopw [7, 8] (fun v i wl => ∃ (x : Nat) (L : List UInt8) (A2 : Option Addr) (n2 c2 : Nat), x ≤ n ∧ i = .int .i64 x ∧ v = .slice A2 n2 c2 ∧ OwnB wl (w.heap.size + 1) A2 n2 c2 L ∧ Below (w.heap.size + 1) (w.alloc (.cells #[.int .u8 (tag.toNat : Int)] 5)) wl ∧ Hid (lenB n = lenB x ++ L.reverse)) (fun _ i _ => (intOf i).toNat)
  case atStart => exact ⟨n, [], _, _, _, Nat.le_refl _, rfl, rfl, OwnB.nil _ _, Below.refl _ _, by unfold Hid; simp⟩
  case round =>
    obtain ⟨x, L, A2, n2, c2, hx, rfl, rfl, hown, hbl, HX⟩ := hrel
    have hsz := hbl.size
    have hsz0 : w.heap.size + 1 ≤ wr.heap.size := by simpa using hsz
    have hLn := HL.out
    rw [HX.out, List.length_append, List.length_reverse] at hLn
    have hl2 := hown.len
    have hn2 : n2 ≤ 4 := by omega
    by_cases hlt : 0 < x
    · obtain ⟨q, hq⟩ : ∃ q : UInt8, (x : Int) % 256 = (q.toNat : Int) := ⟨UInt8.ofNat (x % 256), by rw [byte_mod]; omega⟩
      have HN : Hid (lenB n = lenB (x / 256) ++ (L ++ [q]).reverse) := by
        have e := HX.out
        rw [lenB_pos (n := x) (by omega)] at e
        have e2 : UInt8.ofNat (x % 256) = q := by
          apply UInt8.toNat_inj.1
          rw [byte_mod]; omega
        unfold Hid
        rw [e, e2]; simp
      clear hl2 hLn
      go_wp2_with (at_builtin; refine wpList_apn _ _ rfl rfl rfl (w.heap.size + 1) A2 n2 c2 L rfl (hown.alloc _) (some ⟨wr.heap.size, 0, none⟩) 1 1 [q] rfl (own_lit wr [q] 1 _ rfl rfl (by omega)).rb (by omega) (by simp; omega) ?_)
      intro A3 c3 w3 hown3 hg3
      have hbl3 := (hbl.alloc hsz0 (.cells #[.int .u8 (q.toNat : Int)] 5)).grown hg3 (by simp; omega) (fun g hg => (hown.blk_lt hg).1)
      go_wp2
      go_roundw
      case rel => exact ⟨x / 256, L ++ [q], A3, _, c3, by omega, by go_num, rfl, hown3, hbl3, HN⟩
      case measure => simp [intOf]; omega
    · obtain rfl : x = 0 := by omega
      have HX0 : Hid (lenB n = L.reverse) := by unfold Hid; rw [HX.out, lenB_zero]; rfl
      obtain ⟨q, hq⟩ : ∃ q : UInt8, UInt8.ofNat (128 + (lenB n).length) = q := ⟨_, rfl⟩
      have hlL : (lenB n).length = n2 := by rw [HX0.out, List.length_reverse, hl2]
      have hq2 : IntKind.u8.wrap (128 + (n2 : Int)) = (q.toNat : Int) := by rw [← hq, hlL, UInt8.toNat_ofNat', IntKind.wrap_u8]; omega
      have hq3 : (128 : Int) + (n2 : Int) = (q.toNat : Int) := by rw [← hq, hlL, UInt8.toNat_ofNat']; omega
      have HQ := Lib.hid hq
      have hot : OwnB wr w.heap.size (some ⟨w.heap.size, 0, none⟩) 1 1 [tag] := (own_lit w [tag] 1 #[.int .u8 (tag.toNat : Int)] rfl rfl (by omega)).below hbl (by simp)
      have HO := Lib.hid hown
      have HBL := Lib.hid hbl
      have hszw : w.heap.size ≤ wr.heap.size := by omega
      have HX := HX0
      clear hq hlL hl2 hLn hown hbl HX0
      go_wp2_with (at_builtin; refine wpList_apt _ _ rfl rfl rfl w.heap.size _ 1 1 [tag] rfl (hot.alloc _) (some ⟨wr.heap.size, 0, none⟩) 1 1 [q] rfl (own_lit wr [q] 1 _ rfl rfl (by omega)).rb (by omega) (by simp; omega) ?_)
      intro A4 c4 w4 ho4 hg4 hat4
      have hfar0 : blk A2 = none ∨ blk A2 ≠ some w.heap.size := by
        cases h : blk A2 with
        | none => exact .inl rfl
        | some g => right; intro e; have := (HO.out.blk_lt h).1; injection e with e; omega
      have hfar : blk A2 = none ∨ blk A2 ≠ blk A4 := by
        rcases hat4 with e | e
        · rw [e]; exact hfar0
        · cases h : blk A2 with
          | none => exact .inl rfl
          | some g => right; rw [e]; intro e2; have := (HO.out.blk_lt h).2; injection e2 with e2; omega
      have ho4b : OwnB w4 (w.heap.size + 1) A2 n2 c2 L := (HO.out.alloc (.cells #[.int .u8 (q.toNat : Int)] 5)).kept hg4 hfar0
      have hb4 : Below w.heap.size w w4 := by
        have h1 : Below w.heap.size w wr := (kp_alloc (Below.refl w.heap.size w) (.cells #[.int .u8 (tag.toNat : Int)] 5)).trans (HBL.out.mono (by omega))
        exact (kp_alloc h1 (.cells #[.int .u8 (q.toNat : Int)] 5)).grown hg4 (by simp; omega) (fun g hg => by injection hg with hg; subst hg; exact Nat.le_refl _)
      have HAt4 := Lib.hid hat4
      clear hot hg4 hat4
      have hbd : bs.length = n := HR.out.1
      go_wp2
      go_loopw [6, 9] (fun v i wl => ∃ (k n5 : Nat) (B : Option Addr) (c5 : Nat) (P : List UInt8), Hid (n5 + k = 2 + n2) ∧ k ≤ n2 ∧ v = .slice B n5 c5 ∧ i = .int .i64 ((k : Int) - 1) ∧ OwnB wl w.heap.size B n5 c5 (tag :: q :: P) ∧ OwnB wl (w.heap.size + 1) A2 n2 c2 L ∧ (blk A2 = none ∨ blk A2 ≠ blk B) ∧ Below w.heap.size w wl ∧ Hid (P ++ (L.take k).reverse = L.reverse)) (fun _ i _ => (intOf i + 1).toNat)
      case atStart => exact ⟨n2, 2, A4, c4, [], rfl, Nat.le_refl _, rfl, rfl, ho4, ho4b, hfar, hb4, by unfold Hid; rw [List.take_of_length_le (by rw [HO.out.len]; exact Nat.le_refl _)]; rfl⟩
      case round =>
        obtain ⟨k, n5, B, c5, P, HJ, hk2, rfl, rfl, ho5, hoL, hf5, hb5, HP⟩ := hrel
        clear ho4 ho4b hfar hb4
        have hn5 : n5 ≤ 8 := by have := HJ.out; omega
        by_cases hk0 : k = 0
        · subst hk0
          have HP0 : Hid (wrQ tag bs = (tag :: q :: P) ++ bs) := by
            have h1 := HP.out
            simp only [List.take_zero, List.reverse_nil, List.append_nil] at h1
            unfold Hid
            rw [HW.out, HQ.out, HX.out, ← h1]; rfl
          go_wp2_with (at_builtin; refine wpList_apn _ _ rfl rfl rfl w.heap.size B n5 c5 _ rfl ho5 A n c bs rfl (HR.out.below hb5) (by omega) hb5.size ?_)
          intro A6 c6 w6 ho6 hg6
          go_wp2
          go_ret
          exact ⟨A6, n5 + n, c6, rfl, by rw [HP0.out]; exact ho6, hb5.grown hg6 hb5.size (fun g hg => (ho5.blk_lt hg).1)⟩
        · obtain ⟨i, rfl⟩ : ∃ i, k = i + 1 := ⟨k - 1, by omega⟩
          have hlL := hoL.len
          obtain ⟨y, hy⟩ : ∃ y, L[i]? = some y := ⟨_, List.getElem?_eq_getElem (by omega)⟩
          have hcp := hoL.cap.1
          obtain ⟨g2, hA2, _, _⟩ := hoL.shape (by omega)
          subst hA2
          have hc := hoL.cellAt i y hy
          have HPn : Hid ((P ++ [y]) ++ (L.take i).reverse = L.reverse) := by
            have h1 := HP.out
            rw [List.take_add_one, hy] at h1
            unfold Hid
            rw [← h1]; simp
          have hsz5 := hb5.size
          have hi4 : i ≤ 8 := by omega
          have hin : i < n2 := by omega
          clear hy HP hlL
          go_wp2_with (at_builtin; refine wpList_apt _ _ rfl rfl rfl w.heap.size B n5 c5 _ rfl (ho5.alloc _) (some ⟨wr.heap.size, 0, none⟩) 1 1 [y] rfl (own_lit wr [y] 1 _ rfl rfl (by omega)).rb (by omega) (by simp; omega) ?_)
          intro A7 c7 w7 ho7 hg7 hat7
          have hal : OwnB (wr.alloc (.cells #[.int .u8 (y.toNat : Int)] 5)) (w.heap.size + 1) (some ⟨g2, 0, none⟩) n2 c2 L := hoL.alloc _
          have hoL7 := hal.kept hg7 hf5
          have hf7 : blk (some ⟨g2, 0, none⟩) = none ∨ blk (some ⟨g2, 0, none⟩) ≠ blk A7 := by
            rcases hat7 with e | e
            · rw [e]; exact hf5
            · right; rw [e]; intro e2; have := (hoL.blk_lt rfl).2; injection e2 with e2; simp at e2; omega
          have hb7 : Below w.heap.size w w7 := (kp_alloc hb5 _).grown hg7 (by simp; omega) (fun g hg => (ho5.blk_lt hg).1)
          clear hal hat7 hg7
          go_wp2
          go_roundw
          case rel => exact ⟨i, n5 + 1, A7, c7, P ++ [y], by unfold Hid; have := HJ.out; omega, by omega, rfl, by go_num, ho7, hoL7, hf7, hb7, HPn⟩
          case measure => simp [intOf]
theorem rwrite_any (tag : UInt8) (A : Option Addr) (n c : Nat) (bs : List UInt8) (w : World) (hR : RB w A n bs) (hn : n ≤ 1000000000) :
    Calls Try.prog 39 #[.int .u8 (tag.toNat : Int), .slice A n c] w (Fresh w (wrQ tag bs)) := by
  by_cases h : n < 128
  · exact rwrite_short tag A n c bs w hR h
  · exact rwrite_long tag A n c bs w hR (by omega) hn
end Go.Proofs.Ytlkiobngafjeiaa
