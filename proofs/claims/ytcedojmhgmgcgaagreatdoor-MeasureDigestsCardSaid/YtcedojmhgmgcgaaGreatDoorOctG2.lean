/-
  The document's answers of numbers and pieces (for seats that do not have all of octet).
-/
import Derived.Test.YtcedojmhgmgcgaaGreatDoorOctG1
import Derived.Test.YtcedojmhgmgcgaaGreatDoorOctB2
import Derived.Test.YtcedojmhgmgcgaaGreatDoorApp1
namespace Go.Proofs.YtcedojmhgmgcgaaGreatDoor
open Go.RowKit Go
set_option linter.unusedVariables false
set_option maxRecDepth 100000
theorem inB_yes {n : Nat} {a k : Int} (h : inB n a k = true) : ∃ a' k' : Nat, a = a' ∧ k = k' ∧ a' + k' ≤ n := by
  unfold inB at h
  simp only [decide_eq_true_eq] at h
  exact ⟨a.toNat, k.toNat, by omega, by omega, by omega⟩
theorem refCut_ok (A : Option Addr) (n c : Nat) (bs : List UInt8) (a k : Nat) (w : World) (hR : RB w A n bs) (hn : n ≤ c) (hc : c ≤ 9223372036854775807) (hin : a + k ≤ n) (hlim : k ≤ 140737488355328) :
    Calls Tryz.prog 67 #[.slice A n c, .int .i64 a, .int .i64 k] w (FreshCut w (cut bs a k)) := by
  have hrd : RB w (A.map (·.add a)) k (cut bs a k) := ⟨cut_len _ _ _ (by rw [hR.1]; exact hin), (hR.2.drop_ a).take_ k⟩
  have HC := Lib.hid (fun c' => copy_any (A.map (·.add a)) k c' (cut bs a k) w hrd hlim)
  by_cases hca : c = a
  · obtain rfl : k = 0 := by omega
    have HC2 := Lib.hid (fun A' c' => copy_any A' 0 c' (cut bs a 0) w ⟨by simp [cut], by simpa [cut] using Bs.nil⟩ (by omega))
    subst hca
    clear hrd HC
    go_enter Tryz.func67, Tryz.ntmps67
    go_wp2_with fail
    refine (HC2.out _ _).mono ?_
    rintro e w1 ⟨A1, n1, c1, rfl, hown, hb⟩
    go_wp2
    go_ret2
    exact ⟨_, _, _, rfl, hown, hb⟩
  · clear hrd
    go_enter Tryz.func67, Tryz.ntmps67
    go_wp2_with fail
    refine (HC.out _).mono ?_
    rintro e w1 ⟨A1, n1, c1, rfl, hown, hb⟩
    go_wp2
    go_ret2
    exact ⟨_, _, _, rfl, hown, hb⟩
theorem refCut_not (A : Option Addr) (n c : Nat) (a k : Int) (w : World) (hn : n ≤ 9223372036854775807) (ha1 : -9223372036854775808 ≤ a) (ha2 : a ≤ 9223372036854775807) (h1 : -9223372036854775808 ≤ k) (h2 : k ≤ 9223372036854775807) (hno : inB n a k = false) :
    Calls Tryz.prog 67 #[.slice A n c, .int .i64 a, .int .i64 k] w fun e w' => e = .returned (.tuple #[.slice none 0 0, .bool false]) ∧ w = w' := by
  have hno : ¬ (0 ≤ a ∧ 0 ≤ k ∧ a ≤ n ∧ k ≤ n - a) := by
    intro h
    unfold inB at hno
    simp only [decide_eq_false_iff_not] at hno
    exact hno h
  by_cases q1 : a < 0
  · clear hno
    go_enter Tryz.func67, Tryz.ntmps67
    go_wp2
    go_ret2
    exact ⟨rfl, rfl⟩
  by_cases q2 : k < 0
  · clear hno
    go_enter Tryz.func67, Tryz.ntmps67
    go_wp2
    go_ret2
    exact ⟨rfl, rfl⟩
  by_cases q3 : (n : Int) < a
  · clear hno
    go_enter Tryz.func67, Tryz.ntmps67
    go_wp2
    go_ret2
    exact ⟨rfl, rfl⟩
  · have q4 : (n : Int) - a < k := by omega
    clear hno
    go_enter Tryz.func67, Tryz.ntmps67
    go_wp2
    go_ret2
    exact ⟨rfl, rfl⟩
theorem rev_step (bs : List UInt8) (j n : Nat) (q : UInt8) (hl : bs.length = n) (hj : j < n) (hq : bs[n - 1 - j]? = some q) :
    (bs.drop (n - j)).reverse ++ [q] = (bs.drop (n - (j + 1))).reverse := by
  have hL : bs[n - 1 - j]'(by omega) = q := by rw [List.getElem?_eq_getElem (by omega)] at hq; injection hq
  rw [show n - (j + 1) = n - 1 - j by omega, List.drop_eq_getElem_cons (l := bs) (i := n - 1 - j) (by omega), hL, List.reverse_cons, show n - 1 - j + 1 = n - j by omega]
theorem turned_any (A : Option Addr) (n c : Nat) (bs : List UInt8) (w : World) (hR : RB w A n bs) (hn : n ≤ 1000000000) :
    Calls Tryz.prog 87 #[.slice A n c] w (Fresh w bs.reverse) := by
  have HL := Lib.hid hR.1
  go_enter Tryz.func87, Tryz.ntmps87
  go_wp2
  go_loopw [3, 4] (fun v x wr => ∃ (j : Nat) (A2 : Option Addr) (c2 : Nat), j ≤ n ∧ x = .int .i64 ((n : Int) - 1 - (j : Int)) ∧ v = .slice A2 j c2 ∧ OwnB wr w.heap.size A2 j c2 (bs.drop (n - j)).reverse ∧ Below w.heap.size w wr) (fun _ x _ => (intOf x + 1).toNat)
  case atStart => exact ⟨0, none, 0, Nat.zero_le _, by go_num, rfl, by rw [List.drop_eq_nil_of_le (by have := HL.out; omega)]; exact OwnB.nil _ _, Below.refl _ _⟩
  case round =>
    obtain ⟨j, A2, c2, hj, rfl, rfl, hown, hbl⟩ := hrel
    by_cases hlt : j < n
    · obtain ⟨b, off, q, rfl, hblt, hq, hcell⟩ := (hR.below hbl).at_ (k := n - 1 - j) (by omega)
      have he : ((n : Int) - 1 - (j : Int)) = ((n - 1 - j : Nat) : Int) := by omega
      have HS := Lib.hid (rev_step bs j n q HL.out hlt hq)
      have hsz := hbl.size
      have hm : (((n - 1 - j : Nat) : Int) + 1).toNat = n - j := by omega
      rw [he]
      go_wp2_with (at_builtin; refine wpList_app1 (.tmp 12) (.tmp 17) rfl rfl rfl w.heap.size A2 j c2 _ rfl (hown.alloc _) wr.heap.size _ q rfl (by simp) (by omega) (by simp; omega) ?_)
      intro A3 c3 w3 h1 h2 hg3 hb3
      rw [HS.out] at h1
      have hb3' : Below w.heap.size w w3 := (hbl.alloc hsz _).grown hg3 (by simp; omega) (fun g hg => (hown.blk_lt hg).1)
      clear h2 hg3 hb3
      go_wp2
      go_roundw
      case rel => exact ⟨j + 1, A3, c3, by omega, by go_num, rfl, h1, hb3'⟩
      case measure => simp [intOf] <;> omega
    · obtain rfl : j = n := by omega
      have he : ((j : Int) - 1 - (j : Int)) = -1 := by omega
      rw [he]
      rw [Nat.sub_self, List.drop_zero] at hown
      go_wp2
      go_ret
      exact ⟨_, _, _, rfl, hown, hbl⟩
theorem be_step (l : List UInt8) (i : Nat) (q : UInt8) (hq : l[i]? = some q) : leN (l.take (i + 1)).reverse = leN (l.take i).reverse * 256 + q.toNat := by
  have hi : i < l.length := by
    rcases Nat.lt_or_ge i l.length with h | h
    · exact h
    · rw [List.getElem?_eq_none h] at hq; cases hq
  have hL : l[i]'hi = q := by rw [List.getElem?_eq_getElem hi] at hq; injection hq
  rw [List.take_succ_eq_append_getElem hi, hL, List.reverse_append, List.reverse_singleton, List.singleton_append, leN]
  omega
theorem be_lt (l : List UInt8) (i : Nat) (hi : i ≤ 7) : leN (l.take i).reverse < 72057594037927936 := by
  have h1 := leN_lt (l.take i).reverse
  have h2 : 256 ^ (l.take i).reverse.length ≤ 256 ^ 7 := Nat.pow_le_pow_right (by omega) (by rw [List.length_reverse, List.length_take]; omega)
  have h3 : (256 : Nat) ^ 7 = 72057594037927936 := by decide
  omega
theorem refGetBig_ok (A : Option Addr) (n c : Nat) (bs : List UInt8) (a k : Nat) (w : World) (hR : RB w A n bs) (hn : n ≤ c) (hc : c ≤ 9223372036854775807) (hk : isSz k = true) (hin : a + k ≤ n) :
    Calls Tryz.prog 86 #[.slice A n c, .int .i64 a, .int .i64 k] w fun e w' => e = .returned (.tuple #[.int .u64 (leN (cut bs a k).reverse : Nat), .int .i64 0]) ∧ Below w.heap.size w w' := by
  have hk8 : k ≤ 8 := by simp [isSz] at hk; omega
  have C := Lib.hid (refCut_ok A n c bs a k w hR hn hc hin (by omega))
  have S := Lib.hid (fun W => sized_any k W)
  rw [hk] at S
  clear hk
  have hlen := cut_len bs a k (by rw [hR.1]; exact hin)
  generalize cut bs a k = l at C hlen
  have HL := Lib.hid hlen
  clear hlen
  go_enter Tryz.func86, Tryz.ntmps86
  go_wp2_with fail
  refine C.out.mono ?_
  rintro e w1 ⟨A1, n1, c1, rfl, hown, hb⟩
  obtain rfl : k = n1 := HL.out.symm.trans hown.len
  have hRl := hown.rb
  clear hown
  go_wp2_with fail
  refine (S.out w1).mono ?_
  rintro e w' ⟨rfl, rfl⟩
  go_wp2
  go_loop [10, 11] (fun v x => ∃ (i X : Nat), i ≤ k ∧ x = .int .i64 i ∧ v = .int .u64 X ∧ Hid (X = leN (l.take i).reverse)) (fun _ x => k - (intOf x).toNat)
  case atStart => exact ⟨0, 0, Nat.zero_le _, rfl, rfl, by simp [Hid, leN]⟩
  case round =>
    obtain ⟨i, X, hi, rfl, rfl, hX⟩ := hrel
    by_cases hlt : i < k
    · obtain ⟨b, off, q, rfl, hblt, hq, hcell⟩ := hRl.at_ hlt
      have hq2 := q.toNat_lt
      have hXl : X < 72057594037927936 := by rw [hX.out]; exact be_lt l i (by omega)
      have hS : Hid (X * 256 + q.toNat = leN (l.take (i + 1)).reverse) := by rw [Hid, hX.out]; exact (be_step l i q hq).symm
      go_wp2
      go_round
      case rel => exact ⟨i + 1, X * 256 + q.toNat, by omega, by go_num, by go_num, hS⟩
      case measure => simp [intOf]; omega
    · obtain rfl : i = k := by omega
      have hX2 := hX.out
      rw [List.take_of_length_le (by rw [HL.out]; exact Nat.le_refl _)] at hX2
      have HX := Lib.hid hX2
      clear hX2
      go_wp2
      go_ret2
      exact ⟨by rw [HX.out]; rfl, hb⟩
theorem refGetBig_not (A : Option Addr) (n c : Nat) (bs : List UInt8) (a k : Int) (w : World) (hR : RB w A n bs) (hn : n ≤ c) (hc : c ≤ 9223372036854775807) (hlim : n ≤ 140737488355328) (ha1 : -9223372036854775808 ≤ a) (ha2 : a ≤ 9223372036854775807) (h1 : -9223372036854775808 ≤ k) (h2 : k ≤ 9223372036854775807)
    (hno : isSz k = false ∨ inB n a k = false) :
    Calls Tryz.prog 86 #[.slice A n c, .int .i64 a, .int .i64 k] w fun e w' => e = .returned (.tuple #[.int .u64 0, .int .i64 1]) ∧ Below w.heap.size w w' := by
  have S := Lib.hid (fun W => sized_any k W)
  cases hin : inB n a k with
  | false =>
    have C := Lib.hid (refCut_not A n c a k w (by omega) ha1 ha2 h1 h2 hin)
    clear hno hin
    go_enter Tryz.func86, Tryz.ntmps86
    go_wp2_with fail
    refine C.out.mono ?_
    rintro e w' ⟨rfl, rfl⟩
    go_wp2_with fail
    refine (S.out w).mono ?_
    rintro e w' ⟨rfl, rfl⟩
    generalize isSz k = z
    cases z
    · go_wp2
      go_ret2
      exact ⟨rfl, Below.refl _ _⟩
    · go_wp2
      go_ret2
      exact ⟨rfl, Below.refl _ _⟩
  | true =>
    have hz : isSz k = false := by
      rcases hno with h | h
      · exact h
      · rw [hin] at h; cases h
    rw [hz] at S
    clear hno hz
    obtain ⟨a', k', rfl, rfl, h'⟩ := inB_yes hin
    have C := Lib.hid (refCut_ok A n c bs a' k' w hR hn hc h' (by omega))
    clear hin
    go_enter Tryz.func86, Tryz.ntmps86
    go_wp2_with fail
    refine C.out.mono ?_
    rintro e w1 ⟨A1, n1, c1, rfl, hown, hb⟩
    go_wp2_with fail
    refine (S.out w1).mono ?_
    rintro e w' ⟨rfl, rfl⟩
    go_wp2
    go_ret2
    exact ⟨rfl, hb⟩
theorem refGet_ok (A : Option Addr) (n c : Nat) (bs : List UInt8) (a k : Nat) (w : World) (hR : RB w A n bs) (hn : n ≤ c) (hc : c ≤ 9223372036854775807) (hk : isSz k = true) (hin : a + k ≤ n) :
    Calls Tryz.prog 66 #[.slice A n c, .int .i64 a, .int .i64 k] w fun e w' => e = .returned (.tuple #[.int .u64 (leN (cut bs a k) : Nat), .int .i64 0]) ∧ Below w.heap.size w w' := by
  have hk8 : k ≤ 8 := by simp [isSz] at hk; omega
  have C := Lib.hid (refCut_ok A n c bs a k w hR hn hc hin (by omega))
  have S := Lib.hid (fun W => sized_any k W)
  have hlen := cut_len bs a k (by rw [hR.1]; exact hin)
  generalize cut bs a k = l at C hlen
  have HL := Lib.hid hlen
  have hlc : (cut l.reverse 0 k).reverse = l := by
    unfold cut
    rw [List.drop_zero, List.take_of_length_le (by rw [List.length_reverse, hlen]; exact Nat.le_refl _), List.reverse_reverse]
  have G := Lib.hid (fun A c W (h : RB W A k l.reverse) (h1 : k ≤ c) (h2 : c ≤ 9223372036854775807) => refGetBig_ok A k c l.reverse 0 k W h h1 h2 hk (by omega))
  rw [hlc] at G
  rw [hk] at S
  clear hlen hk hlc
  go_enter Tryz.func66, Tryz.ntmps66
  go_wp2_with fail
  refine C.out.mono ?_
  rintro e w1 ⟨A1, n1, c1, rfl, hown, hb⟩
  obtain rfl : k = n1 := HL.out.symm.trans hown.len
  go_wp2_with fail
  refine (S.out w1).mono ?_
  rintro e w' ⟨rfl, rfl⟩
  go_wp2_with fail
  refine (turned_any A1 k c1 l w1 hown.rb (by omega)).mono ?_
  rintro e w2 ⟨A2, n2, c2, rfl, hown2, hb2⟩
  obtain rfl : k = n2 := by have := hown2.len; rw [List.length_reverse] at this; exact HL.out.symm.trans this
  have hb2' := hb.trans (hb2.mono hb.size)
  have hcap := hown2.cap
  go_wp2_with fail
  refine (G.out A2 c2 w2 hown2.rb hcap.1 (by have := hcap.2; unfold maxLen at this; omega)).mono ?_
  rintro e w3 ⟨rfl, hb3⟩
  go_wp2
  go_ret2
  exact ⟨rfl, hb2'.trans (hb3.mono hb2'.size)⟩
theorem refGet_not (A : Option Addr) (n c : Nat) (bs : List UInt8) (a k : Int) (w : World) (hR : RB w A n bs) (hn : n ≤ c) (hc : c ≤ 9223372036854775807) (hlim : n ≤ 140737488355328) (ha1 : -9223372036854775808 ≤ a) (ha2 : a ≤ 9223372036854775807) (h1 : -9223372036854775808 ≤ k) (h2 : k ≤ 9223372036854775807)
    (hno : isSz k = false ∨ inB n a k = false) :
    Calls Tryz.prog 66 #[.slice A n c, .int .i64 a, .int .i64 k] w fun e w' => e = .returned (.tuple #[.int .u64 0, .int .i64 1]) ∧ Below w.heap.size w w' := by
  have S := Lib.hid (fun W => sized_any k W)
  cases hin : inB n a k with
  | false =>
    have C := Lib.hid (refCut_not A n c a k w (by omega) ha1 ha2 h1 h2 hin)
    clear hno hin
    go_enter Tryz.func66, Tryz.ntmps66
    go_wp2_with fail
    refine C.out.mono ?_
    rintro e w' ⟨rfl, rfl⟩
    go_wp2_with fail
    refine (S.out w).mono ?_
    rintro e w' ⟨rfl, rfl⟩
    generalize isSz k = z
    cases z
    · go_wp2
      go_ret2
      exact ⟨rfl, Below.refl _ _⟩
    · go_wp2
      go_ret2
      exact ⟨rfl, Below.refl _ _⟩
  | true =>
    have hz : isSz k = false := by
      rcases hno with h | h
      · exact h
      · rw [hin] at h; cases h
    rw [hz] at S
    clear hno hz
    obtain ⟨a', k', rfl, rfl, h'⟩ := inB_yes hin
    have C := Lib.hid (refCut_ok A n c bs a' k' w hR hn hc h' (by omega))
    clear hin
    go_enter Tryz.func66, Tryz.ntmps66
    go_wp2_with fail
    refine C.out.mono ?_
    rintro e w1 ⟨A1, n1, c1, rfl, hown, hb⟩
    go_wp2_with fail
    refine (S.out w1).mono ?_
    rintro e w' ⟨rfl, rfl⟩
    go_wp2
    go_ret2
    exact ⟨rfl, hb⟩
end Go.Proofs.YtcedojmhgmgcgaaGreatDoor
