/-
  The document's answer of numbers that are put, the lowest byte first (for seats that have no more of octet).
-/
import Derived.Test.YtcedojmhgmgcgaaGreatDoorOctC1
import Derived.Test.YtcedojmhgmgcgaaGreatDoorApp1
import Derived.LoopTactic
namespace Go.Proofs.YtcedojmhgmgcgaaGreatDoor
open Go.RowKit Go
set_option linter.unusedVariables false
set_option maxRecDepth 100000
theorem sized_any (n : Int) (w : World) : Calls Tryz.prog 85 #[.int .i64 n] w fun e w' => e = .returned (.bool (isSz n)) ∧ w = w' := by
  by_cases h1 : n = 1
  · subst h1
    go_enter Tryz.func85, Tryz.ntmps85
    go_wp2
    go_ret
    exact ⟨rfl, rfl⟩
  by_cases h2 : n = 2
  · subst h2
    go_enter Tryz.func85, Tryz.ntmps85
    go_wp2
    go_ret
    exact ⟨rfl, rfl⟩
  by_cases h4 : n = 4
  · subst h4
    go_enter Tryz.func85, Tryz.ntmps85
    go_wp2
    go_ret
    exact ⟨rfl, rfl⟩
  by_cases h8 : n = 8
  · subst h8
    go_enter Tryz.func85, Tryz.ntmps85
    go_wp2
    go_ret
    exact ⟨rfl, rfl⟩
  · have e : isSz n = false := by simp [isSz]; omega
    rw [e]
    have b1 : (n == 1) = false := by simpa using h1
    have b2 : (n == 2) = false := by simpa using h2
    have b4 : (n == 4) = false := by simpa using h4
    have b8 : (n == 8) = false := by simpa using h8
    clear e h1 h2 h4 h8
    go_enter Tryz.func85, Tryz.ntmps85
    go_wp2
    go_ret
    exact ⟨rfl, rfl⟩
theorem nb_mod (x i X : Nat) (h : X = x / 256 ^ i) : (X : Int) % 256 = ((nb x i).toNat : Int) := by
  subst h
  unfold nb
  rw [UInt8.toNat_ofNat']
  omega
theorem low_no (x k : Int) (w : World) (hk : isSz k = false) : Calls Tryz.prog 72 #[.int .u64 x, .int .i64 k] w (Fresh w []) := by
  have S := Lib.hid (fun W => sized_any k W)
  rw [hk] at S
  clear hk
  by_cases h0 : 0 < k
  · go_enter Tryz.func72, Tryz.ntmps72
    go_wp2
    refine wp_loop_rounds 1 ?_
    rw [rounds_succ]
    go_wp2_with fail
    refine (S.out w).mono ?_
    rintro e w' ⟨rfl, rfl⟩
    go_wp2
    go_ret
    exact ⟨_, _, _, rfl, OwnB.nil _ _, Below.refl _ _⟩
  · go_enter Tryz.func72, Tryz.ntmps72
    go_wp2
    refine wp_loop_rounds 1 ?_
    rw [rounds_succ]
    go_wp2
    go_ret
    exact ⟨_, _, _, rfl, OwnB.nil _ _, Below.refl _ _⟩
theorem low_ok (x k : Nat) (w : World) (hk : isSz k = true) (hx : x < 18446744073709551616) : Calls Tryz.prog 72 #[.int .u64 x, .int .i64 k] w (Fresh w (leB x k)) := by
  have hk8 : k ≤ 8 := by simp [isSz] at hk; omega
  have S := Lib.hid (fun W => sized_any k W)
  rw [hk] at S
  clear hk
  have HL := Lib.hid (leB_len x k)
  go_enter Tryz.func72, Tryz.ntmps72
  go_wp2
  go_loopw [0, 5, 6] (fun y v z wr => ∃ (i X : Nat) (A2 : Option Addr) (c2 : Nat), i ≤ k ∧ z = .int .i64 i ∧ y = .int .u64 X ∧ X < 18446744073709551616 ∧ Hid (X = x / 256 ^ i) ∧ v = .slice A2 i c2 ∧ OwnB wr w.heap.size A2 i c2 ((leB x k).take i) ∧ Below w.heap.size w wr) (fun _ _ z _ => k - (intOf z).toNat)
  case atStart => exact ⟨0, x, none, 0, Nat.zero_le _, rfl, rfl, hx, by simp [Hid], rfl, by rw [List.take_zero]; exact OwnB.nil _ _, Below.refl _ _⟩
  case round =>
    obtain ⟨i, X, A2, c2, hi, rfl, rfl, hXl, hX, rfl, hown, hbl⟩ := hrel
    by_cases hlt : i < k
    · have hq := nb_mod x i X hX.out
      have hq2 := (nb x i).toNat_lt
      have hsz := hbl.size
      have HS : Hid ((leB x k).take i ++ [nb x i] = (leB x k).take (i + 1)) := by
        have hg := leB_get x k i hlt
        have hL : (leB x k)[i]'(by rw [leB_len]; exact hlt) = nb x i := by rw [List.getElem?_eq_getElem (by rw [leB_len]; exact hlt)] at hg; injection hg
        rw [Hid, List.take_succ_eq_append_getElem (by rw [leB_len]; exact hlt), hL]
      have HX2 : Hid (X / 256 = x / 256 ^ (i + 1)) := by
        rw [Hid, hX.out, Nat.pow_succ, Nat.div_div_eq_div_mul]
      go_wp2_with fail
      refine (S.out wr).mono ?_
      rintro e w' ⟨rfl, rfl⟩
      go_wp2_with (at_builtin; refine wpList_app1 (.tmp 16) (.tmp 20) rfl rfl rfl w.heap.size A2 i c2 _ rfl (hown.alloc _) wr.heap.size _ (nb x i) rfl (by simp) (by omega) (by simp; omega) ?_)
      intro A3 c3 w3 h1 h2 hg3 hb3
      rw [HS.out] at h1
      have hb3' : Below w.heap.size w w3 := (hbl.alloc hsz _).grown hg3 (by simp; omega) (fun g hg => (hown.blk_lt hg).1)
      clear h2 hg3 hb3
      go_wp2
      go_roundw
      case rel => exact ⟨i + 1, X / 256, A3, c3, by omega, by go_num, by go_num, by omega, HX2, rfl, h1, hb3'⟩
      case measure => simp [intOf]; omega
    · obtain rfl : i = k := by omega
      rw [List.take_of_length_le (by rw [HL.out]; exact Nat.le_refl _)] at hown
      go_wp2
      go_ret
      exact ⟨_, _, _, rfl, hown, hbl⟩
/-- The bytes of a number, or none. -/
def lowS (x : Nat) (k : Int) : List UInt8 := if isSz k then leB x k.toNat else []
theorem low_any (x : Nat) (k : Int) (w : World) (hx : x < 18446744073709551616) : Calls Tryz.prog 72 #[.int .u64 x, .int .i64 k] w (Fresh w (lowS x k)) := by
  unfold lowS
  cases hk : isSz k with
  | false => exact low_no x k w hk
  | true =>
    obtain ⟨m, rfl⟩ : ∃ m : Nat, k = m := ⟨k.toNat, by simp [isSz] at hk; omega⟩
    exact low_ok x m w hk hx
theorem lowS_len (x : Nat) (k : Int) : (lowS x k).length ≤ 8 := by
  unfold lowS
  cases hk : isSz k with
  | false => simp
  | true =>
    simp only [if_true, leB_len]
    simp [isSz] at hk
    omega
theorem refPut_any (A : Option Addr) (n c : Nat) (bs : List UInt8) (x : Nat) (k : Int) (w : World) (hR : RB w A n bs) (hn : n ≤ 1000000000) (hx : x < 18446744073709551616) :
    Calls Tryz.prog 51 #[.slice A n c, .int .u64 x, .int .i64 k] w (Fresh w (bs ++ lowS x k)) := by
  have C := Lib.hid (copy_any A n c bs w hR (by omega))
  have L := Lib.hid (fun W => low_any x k W hx)
  have hl := lowS_len x k
  have HL := Lib.hid hR.1
  generalize lowS x k = l at L hl
  go_enter Tryz.func51, Tryz.ntmps51
  go_wp2_with fail
  refine C.out.mono ?_
  rintro e w1 ⟨A1, n1, c1, rfl, hown1, hb1⟩
  obtain rfl : n = n1 := HL.out.symm.trans hown1.len
  go_wp2_with fail
  refine (L.out w1).mono ?_
  rintro e w2 ⟨A2, n2, c2, rfl, hown2, hb2⟩
  have hn2 := hown2.len
  have hown12 := hown1.below hb2 (Nat.le_refl _)
  have hsz := hb1.size
  have hsz2 := hb2.size
  go_wp2_with (at_builtin; refine wpList_apn (.tmp 10) (.tmp 13) rfl rfl rfl w.heap.size A1 n c1 bs rfl hown12 A2 n2 c2 l rfl hown2.rb (by omega) (by omega) ?_)
  intro A3 c3 w3 hown3 hg3
  go_wp2
  go_ret
  exact ⟨_, _, _, rfl, hown3, (hb1.trans (hb2.mono hsz)).grown hg3 (by omega) (fun g hg => (hown12.blk_lt hg).1)⟩
end Go.Proofs.YtcedojmhgmgcgaaGreatDoor
