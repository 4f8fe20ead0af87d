import Derived.Test.YtlpbkoiopaejgaaDoorCrcS
namespace Go.Proofs.YtlpbkoiopaejgaaDoor
open Go.RowKit Go
set_option linter.unusedVariables false
theorem ref_extend (s : BitVec 32) (A : Option Addr) (n c : Nat) (bs : List UInt8) (w : World) (hR : RB w A n bs) (hn : n ≤ 1000000000) :
    Calls Tryd.prog 14 #[wv s, .slice A n c] w fun e w' => e = .returned (wv (ext s bs)) ∧ w = w' := by
  have hnot := tn_not s
  go_enter Tryd.func14, Tryd.ntmps14
  go_wp2
  go_loop [5, 6] (fun r i => ∃ k : Nat, k ≤ 8 * n ∧ i = .int .i64 k ∧ r = wv (((bitsOf bs).take k).foldl stepB (cpl s))) (fun _ i => 8 * n - (intOf i).toNat)
  case atStart => exact ⟨0, Nat.zero_le _, rfl, rfl⟩
  case round =>
    obtain ⟨k, hk, rfl, rfl⟩ := hrel
    by_cases hlt : k < 8 * n
    · obtain ⟨b, off, q, rfl, hblt, hq, hcell⟩ := hR.at_ (k := k / 8) (by omega)
      have hqb : (q.toNat : Int) ≤ 255 := by have := q.toNat_lt; omega
      have H : Hid (((bitsOf bs).take (k + 1)).foldl stepB (cpl s) = stepB (((bitsOf bs).take k).foldl stepB (cpl s)) (q.toNat.testBit (k % 8))) := by
        have hb := bits_at bs k (by have := hR.1; omega) q hq
        have hl : k < (bitsOf bs).length := by rw [bitsOf_len]; have := hR.1; omega
        rw [List.take_succ_eq_append_getElem hl, List.foldl_append]
        rw [List.getElem?_eq_getElem hl] at hb
        injection hb with hb
        rw [hb]; rfl
      generalize ((bitsOf bs).take k).foldl stepB (cpl s) = r at H ⊢
      clear hq
      have hd := bit_num q (k % 8) (by omega)
      rw [show ((2 ^ (k % 8) : Nat) : Int) = (2 : Int) ^ (k % 8) by simp] at hd
      have HD := Lib.hid hd
      clear hd
      go_wp2_with fail
      refine (step_any r _ (q.toNat.testBit (k % 8)) w ?_ ?_ ?_).mono ?_
      · omega
      · omega
      · rw [← HD.out]
        congr 1
        apply propext
        omega
      rintro e w' ⟨rfl, rfl⟩
      go_wp2
      go_round
      case rel => exact ⟨k + 1, by omega, by go_num, by rw [H.out]⟩
      case measure => simp [intOf]; omega
    · have hnot2 := tn_not (((bitsOf bs).take k).foldl stepB (cpl s))
      go_wp2
      go_ret
      exact ⟨by rw [List.take_of_length_le (by rw [bitsOf_len]; have := hR.1; omega), ← fold_bits]; rfl, rfl⟩
theorem ref_sum (A : Option Addr) (n c : Nat) (bs : List UInt8) (w : World) (hR : RB w A n bs) (hn : n ≤ 1000000000) :
    Calls Tryd.prog 12 #[.slice A n c] w fun e w' => e = .returned (wv (ext 0#32 bs)) ∧ w = w' := by
  have H := Lib.hid (ref_extend 0#32 A n c bs w hR hn)
  rw [wv0] at H
  go_enter Tryd.func12, Tryd.ntmps12
  go_wp2_with fail
  refine H.out.mono ?_
  rintro e w' ⟨rfl, rfl⟩
  go_wp2
  go_ret
  exact ⟨rfl, rfl⟩
theorem sums_row (a0 : Int) (A1 : Option Addr) (n1 c1 : Nat) (b1 : List UInt8) (w : World) (w0 : (Lit.int .u32 a0).wf = true) (h1 : IsBs w A1 n1 c1 b1) (hT : Tab w) :
    Calls Tryd.prog 3 #[.int .u32 a0, .slice A1 n1 c1] w fun e w' => e = .returned (.bool true) ∧ Below w.heap.size w w' := by
  rw [← word_of_wf w0]
  generalize BitVec.ofInt 32 a0 = s
  clear w0
  have hlim := h1.lim
  have hR := h1.rb
  have hz := hT.1
  by_cases hlen : n1 ≤ 65536
  · have R := Lib.hid (roomy_any A1 n1 c1 b1 w hR (by omega))
    go_enter Tryd.func3, Tryd.ntmps3
    go_wp2_with fail
    refine R.out.mono ?_
    rintro e w1 ⟨A2, c2, rfl, hroom, hb1⟩
    have hT1 := hT.below hb1 hz
    have hR1 := hR.below hb1
    have q1 : (tn (ext 0#32 b1) == tn (ext 0#32 b1)) = true := by simp
    have q2 : (tn (ext s b1) == tn (ext s b1)) = true := by simp
    go_wp2_with fail
    refine (sum_any A2 n1 c2 b1 w1 hT1 hroom.rb (by omega)).mono ?_
    rintro e w' ⟨rfl, rfl⟩
    go_wp2_with fail
    refine (ref_sum A1 n1 c1 b1 w1 hR1 (by omega)).mono ?_
    rintro e w' ⟨rfl, rfl⟩
    go_wp2_with fail
    refine (extend_any s A2 n1 c2 b1 w1 hT1 hroom.rb (by omega)).mono ?_
    rintro e w' ⟨rfl, rfl⟩
    go_wp2_with fail
    refine (ref_extend s A1 n1 c1 b1 w1 hR1 (by omega)).mono ?_
    rintro e w' ⟨rfl, rfl⟩
    go_wp2_with fail
    refine (kept_any A2 A1 n1 n1 c2 c1 _ b1 b1 w1 hroom hR1 (by omega)).mono ?_
    rintro e w' ⟨rfl, rfl⟩
    have q3 : (b1 == b1) = true := by simp
    go_wp2_with fail
    refine (works_any w1 hT1).mono ?_
    rintro e w2 ⟨rfl, hb2⟩
    go_wp2
    go_ret
    exact ⟨rfl, hb1.trans (hb2.mono hb1.size)⟩
  · go_enter Tryd.func3, Tryd.ntmps3
    go_wp2_with fail
    refine (works_any w hT).mono ?_
    rintro e w' ⟨rfl, hb1⟩
    go_wp2
    go_ret
    exact ⟨rfl, hb1⟩
end Go.Proofs.YtlpbkoiopaejgaaDoor
