/-
  crc: the statement on bursts of turned bits.
-/
import Derived.Test.YtlpbkoiopaejgaaDoorCrcU
import Derived.Test.YtlpbkoiopaejgaaDoorCrcG
import Derived.RegionTactic
import Derived.BigRegion
import Derived.ChangeAlike
import Derived.Lib.EndianBits
namespace Go.Proofs.YtlpbkoiopaejgaaDoor
open Go.RowKit Go
set_option linter.unusedVariables false
set_option maxRecDepth 100000
theorem bit_yes (M i : Nat) (hM : M < 4294967296) (hi : i < 32) (h : M.testBit i = true) : bits BinOp.and IntKind.u32 ((M : Int) / 2 ^ i) 1 = 1 := by
  have e : (M : Int) / 2 ^ i = ((M / 2 ^ i : Nat) : Int) := by simp
  have hle : M / 2 ^ i ≤ M := Nat.div_le_self _ _
  rw [e, show (1 : Int) = ((1 : Nat) : Int) from rfl, u32_and_nat _ _ (by omega) (by decide), Nat.and_one_is_mod]
  rw [Nat.testBit_eq_decide_div_mod_eq, decide_eq_true_eq] at h
  rw [h]
theorem bit_no (M i : Nat) (hM : M < 4294967296) (hi : i < 32) (h : M.testBit i = false) : bits BinOp.and IntKind.u32 ((M : Int) / 2 ^ i) 1 = 0 := by
  have e : (M : Int) / 2 ^ i = ((M / 2 ^ i : Nat) : Int) := by simp
  have hle : M / 2 ^ i ≤ M := Nat.div_le_self _ _
  rw [e, show (1 : Int) = ((1 : Nat) : Int) from rfl, u32_and_nat _ _ (by omega) (by decide), Nat.and_one_is_mod]
  rw [Nat.testBit_eq_decide_div_mod_eq, decide_eq_false_iff_not] at h
  omega
theorem turn_xor (q : UInt8) (m : Nat) (hm : m < 8) : bits BinOp.xor IntKind.u8 (q.toNat : Int) (2 ^ m % 256) = ((turn1 q m).toNat : Int) := by
  have h2 : 2 ^ m < 256 := by
    have := Nat.pow_lt_pow_right (a := 2) (by omega) hm
    simpa using this
  have e : ((2 : Int) ^ m % 256) = ((2 ^ m : Nat) : Int) := by
    have h3 : ((2 : Int) ^ m) = ((2 ^ m : Nat) : Int) := by simp
    rw [h3]
    generalize (2 ^ m : Nat) = z at h2
    omega
  rw [e, u8_xor_nat _ _ q.toNat_lt h2]
  unfold turn1
  rw [UInt8.toNat_xor, UInt8.toNat_ofNat', Nat.mod_eq_of_lt h2]
theorem four_end (ds : List UInt8) (n : Nat) (q0 q1 q2 q3 : UInt8) (hl : ds.length = n + 4) (e0 : ds[n]? = some q0) (e1 : ds[n + 1]? = some q1) (e2 : ds[n + 2]? = some q2) (e3 : ds[n + 3]? = some q3) : ds = ds.take n ++ [q0, q1, q2, q3] := by
  conv => lhs; rw [← List.take_append_drop n ds]
  congr 1
  apply List.ext_getElem?
  intro k
  rw [List.getElem?_drop]
  match k with
  | 0 => exact e0
  | 1 => exact e1
  | 2 => exact e2
  | 3 => exact e3
  | k + 4 => rw [List.getElem?_eq_none (by omega)]; simp
theorem or8 (X : Int) (q : UInt8) (h0 : 0 ≤ X) (h1 : X < 16777216) : bits BinOp.or IntKind.u32 (X * 256) (q.toNat : Int) = X * 256 + (q.toNat : Int) := by
  have hq := q.toNat_lt
  rw [u32_or _ _ (by omega) (by omega) (by omega) (by omega), Nat.or_comm, ← u32_or (q.toNat : Int) (X * 256) (by omega) (by omega) (by omega) (by omega), u32_or8 _ _ (by omega) (by omega) (by omega) (by omega) (by omega)]
  omega
theorem or8z (q : UInt8) : bits BinOp.or IntKind.u32 0 (q.toNat : Int) = (q.toNat : Int) := by
  have := or8 0 q (by omega) (by omega)
  simpa using this
theorem bursts_pos (A : Option Addr) (n c : Nat) (b : List UInt8) (at_ : Int) (M : Nat) (w : World) (h1 : IsBs w A n c b) (hT : Tab w) (hn : n ≤ 4096) (hM : M < 4294967296) (ha1 : -9223372036854775808 ≤ at_) (ha2 : at_ ≤ 9223372036854775807)
    (nn fr : Nat) (hnn1 : nn ≤ n + 4) (hnn2 : n + 4 ≤ nn) (hfr : fr < 8 * nn) (ht : at_.tmod (8 * (nn : Int)) = (fr : Int)) :
    Calls Tryd.prog 7 #[.slice A n c, .int .i64 at_, .int .u32 M] w fun e w' => e = .returned (.bool true) ∧ Below w.heap.size w w' := by
  have WK := Lib.hid (fun W (h : Tab W) => works_any W h)
  have SM := Lib.hid (sum_any A n c b w hT h1.rb (by omega))
  have LW := Lib.hid (low_any A n c b (ext 0#32 b) w h1.rb (by omega))
  have hcl : (b ++ le4 (ext 0#32 b)).length = nn := by rw [List.length_append, h1.len]; show n + 4 = nn; omega
  have HS := Lib.hid (fun p v h => burst_sum b p v fr M h)
  rw [hcl] at HS
  have hz0 : decide ((fr : Int) < 0) = false := by simp
  have hz : (8 * (nn : Int) == 0) = false := beq_eq_false_iff_ne.2 (by omega)
  generalize ext 0#32 b = sm at SM LW HS hcl
  generalize hcs : b ++ le4 sm = cs at LW HS hcl
  have HCL := Lib.hid hcl
  clear hcs hcl
  go_enter Tryd.func7, Tryd.ntmps7
  go_wp2_with fail
  refine SM.out.mono ?_
  rintro e w' ⟨rfl, rfl⟩
  go_wp2_with fail
  refine LW.out.mono ?_
  rintro e w1 ⟨A1, n1, c1, rfl, hown1, hb1⟩
  obtain rfl : nn = n1 := by have := hown1.len; rw [HCL.out] at this; exact this
  obtain ⟨g, rfl, hg1, hg2⟩ := hown1.shape (by have := hown1.cap.1; omega)
  go_wp2
  go_loopw [10, 11] (fun v x wr => ∃ i : Nat, i ≤ 32 ∧ x = .int .i64 i ∧ v = .bool (turnedB fr M (8 * nn) i) ∧ OwnB wr w.heap.size (some ⟨g, 0, none⟩) nn c1 (burst cs fr M i) ∧ Below w.heap.size w wr) (fun _ x _ => 32 - (intOf x).toNat)
  case atStart => exact ⟨0, Nat.zero_le _, rfl, rfl, hown1, hb1⟩
  case round =>
    obtain ⟨i, hi, rfl, rfl, hown, hbl⟩ := hrel
    by_cases hlt : i < 32
    · cases hbit : M.testBit i with
      | true =>
        have hand := bit_yes M i hM (by omega) hbit
        by_cases hin : fr + i < 8 * nn
        · have hin' : (fr : Int) + (i : Int) < 8 * (nn : Int) := by omega
          have hlen : (burst cs fr M i).length = nn := hown.len
          obtain ⟨q, hq⟩ : ∃ q, (burst cs fr M i)[(fr + i) / 8]? = some q := ⟨_, List.getElem?_eq_getElem (by omega)⟩
          have hcell := hown.cellAt ((fr + i) / 8) q hq
          have hfree := hown.free ((fr + i) / 8)
          have hst := hown.stored ((fr + i) / 8) (turn1 q ((fr + i) % 8))
          have hxb := turn_xor q ((fr + i) % 8) (by omega)
          have hS : Hid (burst cs fr M (i + 1) = (burst cs fr M i).set ((fr + i) / 8) (turn1 q ((fr + i) % 8))) := by
            rw [Hid, burst, if_pos ⟨hbit, by rw [HCL.out]; exact hin⟩, turnAt, List.getD_eq_getElem?_getD, hq]
            rfl
          have hU : Hid (turnedB fr M (8 * nn) (i + 1) = true) := by rw [Hid, turnedB, hbit, decide_eq_true hin]; simp
          clear hbit hlen
          go_wp2
          go_roundw
          case rel => exact ⟨i + 1, by omega, by go_num, by rw [hU.out], by rw [hS.out]; exact hst, hbl.setCell hg1 _⟩
          case measure => simp [intOf]; omega
        · have hin' : decide ((fr : Int) + (i : Int) < 8 * (nn : Int)) = false := by simp; omega
          have hS : Hid (burst cs fr M (i + 1) = burst cs fr M i) := by rw [Hid, burst, if_neg (by rw [HCL.out]; exact fun hh => hin hh.2)]
          have hU : Hid (turnedB fr M (8 * nn) (i + 1) = turnedB fr M (8 * nn) i) := by rw [Hid, turnedB, decide_eq_false hin]; simp
          clear hbit
          go_wp2
          go_roundw
          case rel => exact ⟨i + 1, by omega, by go_num, by rw [hU.out], by rw [hS.out]; exact hown, hbl⟩
          case measure => simp [intOf]; omega
      | false =>
        have hand := bit_no M i hM (by omega) hbit
        have hS : Hid (burst cs fr M (i + 1) = burst cs fr M i) := by rw [Hid, burst, if_neg (by rw [hbit]; simp)]
        have hU : Hid (turnedB fr M (8 * nn) (i + 1) = turnedB fr M (8 * nn) i) := by rw [Hid, turnedB, hbit]; simp
        clear hbit
        go_wp2
        go_roundw
        case rel => exact ⟨i + 1, by omega, by go_num, by rw [hU.out], by rw [hS.out]; exact hown, hbl⟩
        case measure => simp [intOf]; omega
    · obtain rfl : i = 32 := by omega
      have hlen : (burst cs fr M 32).length = nn := hown.len
      have HS2 := Lib.hid (fun p v h => HS.out p v h)
      clear HS
      generalize burst cs fr M 32 = ds at hown hlen HS2
      have hat : ∀ k, k < nn → ∃ q, ds[k]? = some q := fun k hk => ⟨_, List.getElem?_eq_getElem (by omega)⟩
      obtain ⟨q0, e0⟩ := hat n (by omega)
      obtain ⟨q1, e1⟩ := hat (n + 1) (by omega)
      obtain ⟨q2, e2⟩ := hat (n + 2) (by omega)
      obtain ⟨q3, e3⟩ := hat (n + 3) (by omega)
      have hds : ds.take n ++ le4 (leW q0 q1 q2 q3) = ds := by
        rw [le4_leW]
        refine (four_end ds n q0 q1 q2 q3 (by omega) e0 e1 e2 e3).symm
      have K := HS2.out _ _ hds
      have k0 := hown.cellAt n q0 e0
      have k1 := hown.cellAt (n + 1) q1 e1
      have k2 := hown.cellAt (n + 2) q2 e2
      have k3 := hown.cellAt (n + 3) q3 e3
      have b0 := q0.toNat_lt
      have b1 := q1.toNat_lt
      have b2 := q2.toNat_lt
      have b3 := q3.toNat_lt
      go_wp2
      go_loop [13, 14] (fun v x => (x = .int .i64 3 ∧ v = .int .u32 0) ∨ (x = .int .i64 2 ∧ v = .int .u32 q3.toNat) ∨ (x = .int .i64 1 ∧ v = .int .u32 ((q3.toNat * 256 + q2.toNat : Nat) : Int)) ∨ (x = .int .i64 0 ∧ v = .int .u32 ((q3.toNat * 65536 + q2.toNat * 256 + q1.toNat : Nat) : Int)) ∨ (x = .int .i64 (-1) ∧ v = .int .u32 (tn (leW q0 q1 q2 q3)))) (fun _ x => (intOf x + 1).toNat)
      case atStart => exact .inl ⟨rfl, rfl⟩
      case round =>
        rcases hrel with ⟨rfl, rfl⟩ | ⟨rfl, rfl⟩ | ⟨rfl, rfl⟩ | ⟨rfl, rfl⟩ | ⟨rfl, rfl⟩
        · have ho := or8z q3
          go_wp2
          go_round
          case rel => exact .inr (.inl ⟨rfl, rfl⟩)
          case measure => simp [intOf]
        · have ho := or8 (q3.toNat : Int) q2 (by omega) (by omega)
          go_wp2
          go_round
          case rel => exact .inr (.inr (.inl ⟨rfl, rfl⟩))
          case measure => simp [intOf]
        · have ho := or8 ((q3.toNat : Int) * 256 + (q2.toNat : Int)) q1 (by omega) (by omega)
          go_wp2
          go_round
          case rel => exact .inr (.inr (.inr (.inl ⟨rfl, by congr 1; omega⟩)))
          case measure => simp [intOf]
        · have ho := or8 ((q3.toNat : Int) * 65536 + (q2.toNat : Int) * 256 + (q1.toNat : Int)) q0 (by omega) (by omega)
          go_wp2
          go_round
          case rel => exact .inr (.inr (.inr (.inr ⟨rfl, by congr 1; unfold tn; rw [leW_nat]; omega⟩)))
          case measure => simp [intOf]
        · have hRp : RB wr (some ⟨g, 0, none⟩) n (ds.take n) := ⟨by rw [List.length_take]; omega, hown.rb.2.take_ n⟩
          have hTr := hT.below hbl hT.1
          have S2 := Lib.hid (sum_any (some ⟨g, 0, none⟩) n c1 (ds.take n) wr hTr hRp (by omega))
          generalize ext 0#32 (ds.take n) = p at S2 K
          generalize leW q0 q1 q2 q3 = v at K
          have hcap := hown.cap
          have hc1 : c1 ≤ 9223372036854775807 := by have := hcap.2; unfold maxLen at this; omega
          have hc0 : n ≤ c1 := by omega
          clear hcap hRp hown HS2 hds hat e0 e1 e2 e3 k0 k1 k2 k3
          cases hu : turnedB fr M (8 * nn) 32 with
          | false =>
            obtain rfl : p = v := K.2 hu
            have hq : (tn p == tn p) = true := by simp
            clear K hu
            go_wp2_with fail
            refine S2.out.mono ?_
            rintro e w' ⟨rfl, rfl⟩
            go_wp2_with fail
            refine (WK.out wr hTr).mono ?_
            rintro e w3 ⟨rfl, hb3⟩
            go_wp2
            go_ret
            exact ⟨rfl, hbl.trans (hb3.mono hbl.size)⟩
          | true =>
            have hq : (tn p == tn v) = false := by
              rw [beq_eq_false_iff_ne]
              intro e
              have := K.1 (tn_inj e)
              rw [hu] at this
              cases this
            clear K hu
            go_wp2_with fail
            refine S2.out.mono ?_
            rintro e w' ⟨rfl, rfl⟩
            go_wp2_with fail
            refine (WK.out wr hTr).mono ?_
            rintro e w3 ⟨rfl, hb3⟩
            go_wp2
            go_ret
            exact ⟨rfl, hbl.trans (hb3.mono hbl.size)⟩
theorem bursts_neg (A : Option Addr) (n c : Nat) (b : List UInt8) (at_ : Int) (M : Nat) (w : World) (h1 : IsBs w A n c b) (hT : Tab w) (hn : n ≤ 4096) (hM : M < 4294967296) (ha1 : -9223372036854775808 ≤ at_) (ha2 : at_ ≤ 9223372036854775807)
    (nn fr : Nat) (hnn1 : nn ≤ n + 4) (hnn2 : n + 4 ≤ nn) (hfr : fr < 8 * nn) (ht : at_.tmod (8 * (nn : Int)) = (fr : Int) - 8 * (nn : Int)) :
    Calls Tryd.prog 7 #[.slice A n c, .int .i64 at_, .int .u32 M] w fun e w' => e = .returned (.bool true) ∧ Below w.heap.size w w' := by
  have WK := Lib.hid (fun W (h : Tab W) => works_any W h)
  have SM := Lib.hid (sum_any A n c b w hT h1.rb (by omega))
  have LW := Lib.hid (low_any A n c b (ext 0#32 b) w h1.rb (by omega))
  have hcl : (b ++ le4 (ext 0#32 b)).length = nn := by rw [List.length_append, h1.len]; show n + 4 = nn; omega
  have HS := Lib.hid (fun p v h => burst_sum b p v fr M h)
  rw [hcl] at HS
  have hw : wrap64 ((fr : Int) - 8 * (nn : Int) + 8 * (nn : Int)) = (fr : Int) := by unfold wrap64; omega
  have hz : (8 * (nn : Int) == 0) = false := beq_eq_false_iff_ne.2 (by omega)
  generalize ext 0#32 b = sm at SM LW HS hcl
  generalize hcs : b ++ le4 sm = cs at LW HS hcl
  have HCL := Lib.hid hcl
  clear hcs hcl
  go_enter Tryd.func7, Tryd.ntmps7
  go_wp2_with fail
  refine SM.out.mono ?_
  rintro e w' ⟨rfl, rfl⟩
  go_wp2_with fail
  refine LW.out.mono ?_
  rintro e w1 ⟨A1, n1, c1, rfl, hown1, hb1⟩
  obtain rfl : nn = n1 := by have := hown1.len; rw [HCL.out] at this; exact this
  obtain ⟨g, rfl, hg1, hg2⟩ := hown1.shape (by have := hown1.cap.1; omega)
  go_wp2
  go_loopw [10, 11] (fun v x wr => ∃ i : Nat, i ≤ 32 ∧ x = .int .i64 i ∧ v = .bool (turnedB fr M (8 * nn) i) ∧ OwnB wr w.heap.size (some ⟨g, 0, none⟩) nn c1 (burst cs fr M i) ∧ Below w.heap.size w wr) (fun _ x _ => 32 - (intOf x).toNat)
  case atStart => exact ⟨0, Nat.zero_le _, rfl, rfl, hown1, hb1⟩
  case round =>
    obtain ⟨i, hi, rfl, rfl, hown, hbl⟩ := hrel
    by_cases hlt : i < 32
    · cases hbit : M.testBit i with
      | true =>
        have hand := bit_yes M i hM (by omega) hbit
        by_cases hin : fr + i < 8 * nn
        · have hin' : (fr : Int) + (i : Int) < 8 * (nn : Int) := by omega
          have hlen : (burst cs fr M i).length = nn := hown.len
          obtain ⟨q, hq⟩ : ∃ q, (burst cs fr M i)[(fr + i) / 8]? = some q := ⟨_, List.getElem?_eq_getElem (by omega)⟩
          have hcell := hown.cellAt ((fr + i) / 8) q hq
          have hfree := hown.free ((fr + i) / 8)
          have hst := hown.stored ((fr + i) / 8) (turn1 q ((fr + i) % 8))
          have hxb := turn_xor q ((fr + i) % 8) (by omega)
          have hS : Hid (burst cs fr M (i + 1) = (burst cs fr M i).set ((fr + i) / 8) (turn1 q ((fr + i) % 8))) := by
            rw [Hid, burst, if_pos ⟨hbit, by rw [HCL.out]; exact hin⟩, turnAt, List.getD_eq_getElem?_getD, hq]
            rfl
          have hU : Hid (turnedB fr M (8 * nn) (i + 1) = true) := by rw [Hid, turnedB, hbit, decide_eq_true hin]; simp
          clear hbit hlen
          go_wp2
          go_roundw
          case rel => exact ⟨i + 1, by omega, by go_num, by rw [hU.out], by rw [hS.out]; exact hst, hbl.setCell hg1 _⟩
          case measure => simp [intOf]; omega
        · have hin' : decide ((fr : Int) + (i : Int) < 8 * (nn : Int)) = false := by simp; omega
          have hS : Hid (burst cs fr M (i + 1) = burst cs fr M i) := by rw [Hid, burst, if_neg (by rw [HCL.out]; exact fun hh => hin hh.2)]
          have hU : Hid (turnedB fr M (8 * nn) (i + 1) = turnedB fr M (8 * nn) i) := by rw [Hid, turnedB, decide_eq_false hin]; simp
          clear hbit
          go_wp2
          go_roundw
          case rel => exact ⟨i + 1, by omega, by go_num, by rw [hU.out], by rw [hS.out]; exact hown, hbl⟩
          case measure => simp [intOf]; omega
      | false =>
        have hand := bit_no M i hM (by omega) hbit
        have hS : Hid (burst cs fr M (i + 1) = burst cs fr M i) := by rw [Hid, burst, if_neg (by rw [hbit]; simp)]
        have hU : Hid (turnedB fr M (8 * nn) (i + 1) = turnedB fr M (8 * nn) i) := by rw [Hid, turnedB, hbit]; simp
        clear hbit
        go_wp2
        go_roundw
        case rel => exact ⟨i + 1, by omega, by go_num, by rw [hU.out], by rw [hS.out]; exact hown, hbl⟩
        case measure => simp [intOf]; omega
    · obtain rfl : i = 32 := by omega
      have hlen : (burst cs fr M 32).length = nn := hown.len
      have HS2 := Lib.hid (fun p v h => HS.out p v h)
      clear HS
      generalize burst cs fr M 32 = ds at hown hlen HS2
      have hat : ∀ k, k < nn → ∃ q, ds[k]? = some q := fun k hk => ⟨_, List.getElem?_eq_getElem (by omega)⟩
      obtain ⟨q0, e0⟩ := hat n (by omega)
      obtain ⟨q1, e1⟩ := hat (n + 1) (by omega)
      obtain ⟨q2, e2⟩ := hat (n + 2) (by omega)
      obtain ⟨q3, e3⟩ := hat (n + 3) (by omega)
      have hds : ds.take n ++ le4 (leW q0 q1 q2 q3) = ds := by
        rw [le4_leW]
        refine (four_end ds n q0 q1 q2 q3 (by omega) e0 e1 e2 e3).symm
      have K := HS2.out _ _ hds
      have k0 := hown.cellAt n q0 e0
      have k1 := hown.cellAt (n + 1) q1 e1
      have k2 := hown.cellAt (n + 2) q2 e2
      have k3 := hown.cellAt (n + 3) q3 e3
      have b0 := q0.toNat_lt
      have b1 := q1.toNat_lt
      have b2 := q2.toNat_lt
      have b3 := q3.toNat_lt
      go_wp2
      go_loop [13, 14] (fun v x => (x = .int .i64 3 ∧ v = .int .u32 0) ∨ (x = .int .i64 2 ∧ v = .int .u32 q3.toNat) ∨ (x = .int .i64 1 ∧ v = .int .u32 ((q3.toNat * 256 + q2.toNat : Nat) : Int)) ∨ (x = .int .i64 0 ∧ v = .int .u32 ((q3.toNat * 65536 + q2.toNat * 256 + q1.toNat : Nat) : Int)) ∨ (x = .int .i64 (-1) ∧ v = .int .u32 (tn (leW q0 q1 q2 q3)))) (fun _ x => (intOf x + 1).toNat)
      case atStart => exact .inl ⟨rfl, rfl⟩
      case round =>
        rcases hrel with ⟨rfl, rfl⟩ | ⟨rfl, rfl⟩ | ⟨rfl, rfl⟩ | ⟨rfl, rfl⟩ | ⟨rfl, rfl⟩
        · have ho := or8z q3
          go_wp2
          go_round
          case rel => exact .inr (.inl ⟨rfl, rfl⟩)
          case measure => simp [intOf]
        · have ho := or8 (q3.toNat : Int) q2 (by omega) (by omega)
          go_wp2
          go_round
          case rel => exact .inr (.inr (.inl ⟨rfl, rfl⟩))
          case measure => simp [intOf]
        · have ho := or8 ((q3.toNat : Int) * 256 + (q2.toNat : Int)) q1 (by omega) (by omega)
          go_wp2
          go_round
          case rel => exact .inr (.inr (.inr (.inl ⟨rfl, by congr 1; omega⟩)))
          case measure => simp [intOf]
        · have ho := or8 ((q3.toNat : Int) * 65536 + (q2.toNat : Int) * 256 + (q1.toNat : Int)) q0 (by omega) (by omega)
          go_wp2
          go_round
          case rel => exact .inr (.inr (.inr (.inr ⟨rfl, by congr 1; unfold tn; rw [leW_nat]; omega⟩)))
          case measure => simp [intOf]
        · have hRp : RB wr (some ⟨g, 0, none⟩) n (ds.take n) := ⟨by rw [List.length_take]; omega, hown.rb.2.take_ n⟩
          have hTr := hT.below hbl hT.1
          have S2 := Lib.hid (sum_any (some ⟨g, 0, none⟩) n c1 (ds.take n) wr hTr hRp (by omega))
          generalize ext 0#32 (ds.take n) = p at S2 K
          generalize leW q0 q1 q2 q3 = v at K
          have hcap := hown.cap
          have hc1 : c1 ≤ 9223372036854775807 := by have := hcap.2; unfold maxLen at this; omega
          have hc0 : n ≤ c1 := by omega
          clear hcap hRp hown HS2 hds hat e0 e1 e2 e3 k0 k1 k2 k3
          cases hu : turnedB fr M (8 * nn) 32 with
          | false =>
            obtain rfl : p = v := K.2 hu
            have hq : (tn p == tn p) = true := by simp
            clear K hu
            go_wp2_with fail
            refine S2.out.mono ?_
            rintro e w' ⟨rfl, rfl⟩
            go_wp2_with fail
            refine (WK.out wr hTr).mono ?_
            rintro e w3 ⟨rfl, hb3⟩
            go_wp2
            go_ret
            exact ⟨rfl, hbl.trans (hb3.mono hbl.size)⟩
          | true =>
            have hq : (tn p == tn v) = false := by
              rw [beq_eq_false_iff_ne]
              intro e
              have := K.1 (tn_inj e)
              rw [hu] at this
              cases this
            clear K hu
            go_wp2_with fail
            refine S2.out.mono ?_
            rintro e w' ⟨rfl, rfl⟩
            go_wp2_with fail
            refine (WK.out wr hTr).mono ?_
            rintro e w3 ⟨rfl, hb3⟩
            go_wp2
            go_ret
            exact ⟨rfl, hbl.trans (hb3.mono hbl.size)⟩
theorem bursts_row (A : Option Addr) (n c : Nat) (b : List UInt8) (at_ m : Int) (w : World) (h1 : IsBs w A n c b) (ha : (Lit.int .i64 at_).wf = true) (hm : (Lit.int .u32 m).wf = true) (hT : Tab w) :
    Calls Tryd.prog 7 #[.slice A n c, .int .i64 at_, .int .u32 m] w fun e w' => e = .returned (.bool true) ∧ Below w.heap.size w w' := by
  obtain ⟨a1, a2⟩ := bounds_i64 ha
  obtain ⟨m1, m2⟩ := bounds_u32 hm
  obtain ⟨M, rfl⟩ : ∃ M : Nat, m = M := ⟨m.toNat, by omega⟩
  have hlim := h1.lim
  by_cases hn : n ≤ 4096
  · have hpos : (0 : Int) < ((8 * (n + 4) : Nat) : Int) := by omega
    have h2 := Int.tmod_lt_of_pos at_ hpos
    have h3 : -((8 * (n + 4) : Nat) : Int) < at_.tmod ((8 * (n + 4) : Nat) : Int) := by
      rcases Int.lt_or_le at_ 0 with h | h
      · have h3 := Int.neg_tmod (a := at_) (b := ((8 * (n + 4) : Nat) : Int))
        have h4 := Int.tmod_lt_of_pos (-at_) hpos
        omega
      · have := Int.tmod_nonneg ((8 * (n + 4) : Nat) : Int) h
        omega
    have hcast : ((8 * (n + 4) : Nat) : Int) = 8 * ((n + 4 : Nat) : Int) := by omega
    rw [hcast] at h2 h3
    by_cases ht : at_.tmod (8 * ((n + 4 : Nat) : Int)) < 0
    · exact bursts_neg A n c b at_ M w h1 hT hn (by omega) a1 a2 (n + 4) (at_.tmod (8 * ((n + 4 : Nat) : Int)) + 8 * ((n + 4 : Nat) : Int)).toNat (Nat.le_refl _) (Nat.le_refl _) (by omega) (by omega)
    · exact bursts_pos A n c b at_ M w h1 hT hn (by omega) a1 a2 (n + 4) (at_.tmod (8 * ((n + 4 : Nat) : Int))).toNat (Nat.le_refl _) (Nat.le_refl _) (by omega) (by omega)
  · have WK := Lib.hid (fun W (h : Tab W) => works_any W h)
    go_enter Tryd.func7, Tryd.ntmps7
    go_wp2_with fail
    refine (WK.out w hT).mono ?_
    rintro e w' ⟨rfl, hb1⟩
    go_wp2
    go_ret
    exact ⟨rfl, hb1⟩
end Go.Proofs.YtlpbkoiopaejgaaDoor
