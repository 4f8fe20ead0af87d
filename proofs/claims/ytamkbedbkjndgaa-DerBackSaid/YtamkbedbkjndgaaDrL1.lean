/-
  der: the statement on lengths.
-/
import Derived.Test.YtamkbedbkjndgaaDrWk
namespace Go.Proofs.Ytamkbedbkjndgaa
open Go.RowKit Go
set_option linter.unusedVariables false
set_option maxRecDepth 100000
theorem lenB_1 {n : Nat} (h1 : 1 ≤ n) (h2 : n < 256) : (lenB n).length = 1 := by
  rw [lenB_pos (by omega), show n / 256 = 0 by omega, lenB_zero]; rfl
theorem lenB_2 {n : Nat} (h1 : 256 ≤ n) (h2 : n < 65536) : (lenB n).length = 2 := by
  rw [lenB_pos (by omega), List.length_append, lenB_1 (by omega) (by omega)]; rfl
theorem lenB_3 {n : Nat} (h1 : 65536 ≤ n) (h2 : n < 16777216) : (lenB n).length = 3 := by
  rw [lenB_pos (by omega), List.length_append, lenB_2 (by omega) (by omega)]; rfl
theorem wr_len (tag : UInt8) (b : List UInt8) : (wrQ tag b).length = if b.length < 128 then b.length + 2 else b.length + (lenB b.length).length + 2 := by
  unfold wrQ
  split
  · simp
  · simp; omega
/-- What Parse tells of what was written. -/
theorem parse_wr (tag : UInt8) (ht : tag.toNat % 32 ≠ 31) (b more : List UInt8) (hb : b.length ≤ 1000000) (A : Option Addr) (n c : Nat) (w : World) (hR : RB w A n (wrQ tag b ++ more)) (hnc : n ≤ c) (hn : n ≤ 1000000000) (hc : c ≤ 9223372036854775807) :
    Calls Try.prog 24 #[.slice A n c] w fun e w' => (∃ A1 n1 c1 A2 n2 c2 A3 n3 c3, e = .returned (.tuple #[.agg #[.int .u8 (tag.toNat : Int), .slice A1 n1 c1, .slice A2 n2 c2], .slice A3 n3 c3, .int .i64 0]) ∧
        OwnB w' w.heap.size A1 n1 c1 b ∧ OwnB w' w.heap.size A2 n2 c2 (wrQ tag b) ∧ OwnB w' w.heap.size A3 n3 c3 more) ∧ Below w.heap.size w w' := by
  refine (parse_any A n c _ w hR hnc hn hc).mono fun e w' hp => ?_
  unfold ParsePost at hp
  rw [split_wr tag b more ht (by omega)] at hp
  obtain ⟨⟨A1, n1, c1, A2, n2, c2, A3, n3, c3, rfl, o1, o2, o3, _⟩, hbl⟩ := hp
  have h0 : (wrQ tag b ++ more).getD 0 0 = tag := by unfold wrQ; split <;> rfl
  rw [h0]
  have e1 : (wrQ tag b ++ more).take (wrQ tag b).length = wrQ tag b := by simp
  have e2 : (wrQ tag b ++ more).drop (wrQ tag b).length = more := by simp
  have e3 : (wrQ tag b).drop ((wrQ tag b).length - b.length) = b := by
    have : ∃ p, wrQ tag b = p ++ b := by unfold wrQ; split; exact ⟨[tag, _], rfl⟩; exact ⟨tag :: UInt8.ofNat (128 + (lenB b.length).length) :: lenB b.length, by simp⟩
    obtain ⟨p, hp⟩ := this
    rw [hp]; simp
  rw [e1] at o1 o2
  rw [e2] at o3
  rw [e3] at o1
  exact ⟨⟨A1, n1, c1, A2, n2, c2, A3, n3, c3, rfl, o1, o2, o3⟩, hbl⟩
end Go.Proofs.Ytamkbedbkjndgaa
