/-
  der: the statement on two elements.
-/
import Derived.Test.YtamkbedbkjndgaaDrWk
import Derived.Test.YtamkbedbkjndgaaDrA
import Derived.Test.YtamkbedbkjndgaaDrL1
import Derived.Test.YtamkbedbkjndgaaDrL4
import Derived.Lib.SmallJoins
namespace Go.Proofs.Ytamkbedbkjndgaa
open Go.RowKit Go
set_option linter.unusedVariables false
set_option linter.unusedSimpArgs false
set_option maxRecDepth 100000
section
open Go.ChangeShapes Go.WideShapes Go.ChangeAt Go.Joins
theorem slice_of {H : Type} {enc : TypeId × Value → H} {W : World} {base n : Nat} {sp : Nat → Bool} {c : Value} {x : DataW H × List MemPlace} (h : DataW.trod enc Try.prog W base sp true n 22 [c] = some x) : ∃ A n k, c = Value.slice A n k := by
  rcases DataW.trod_slice Try.underlying22 h with ⟨e, _⟩ | ⟨a, l, k, _, _, _, _, e, _⟩
  · injection e with e _; exact ⟨_, _, _, e⟩
  · injection e with e _; exact ⟨_, _, _, e⟩
end
/-- lintellaw10.Pair, as the model holds it. -/
structure Pair where
  one : Nat
  two : Nat
  Xa : Option Addr
  na : Nat
  ca : Nat
  ba : List UInt8
  Xb : Option Addr
  nb : Nat
  cb : Nat
  bb : List UInt8
def Pair.cells (o : Pair) : Array Value := #[.int .u8 (o.one : Int), .int .u8 (o.two : Int), .slice o.Xa o.na o.ca, .slice o.Xb o.nb o.cb]
def Pair.val (o : Pair) : Value := .agg o.cells
structure IsPair (w : World) (o : Pair) : Prop where
  one : o.one < 256
  two : o.two < 256
  a : IsBs w o.Xa o.na o.ca o.ba
  b : IsBs w o.Xb o.nb o.cb o.bb
section
open Go.ChangeShapes Go.WideShapes Go.ChangeAt Go.Joins
end

theorem join2_any (X1 X2 : Option Addr) (m1 m2 k1 k2 : Nat) (r1 r2 : List UInt8) (w : World) (g : Nat) (hg : w.heap.size = g) (h1 : RB w X1 m1 r1) (h2 : RB w X2 m2 r2) (hlen : m1 + m2 ≤ 140737488355328) :
    Calls Try.prog 25 #[.slice (some ⟨g, 0, none⟩) 2 2] (w.alloc (.cells #[.slice X1 m1 k1, .slice X2 m2 k2] 22)) (Fresh w (r1 ++ r2)) := by
  have := joins_any [(X1, m1, k1, r1), (X2, m2, k2, r2)] 2 #[.slice X1 m1 k1, .slice X2 m2 k2] w g hg rfl (by omega) rfl (by
    intro x hx
    simp only [List.mem_cons, List.not_mem_nil, or_false] at hx
    rcases hx with rfl | rfl
    · exact h1
    · exact h2) (by simp [h1.1, h2.1]; omega)
  simpa only [List.flatMap_cons, List.flatMap_nil, List.append_nil] using this
theorem join3_any (X1 X2 X3 : Option Addr) (m1 m2 m3 k1 k2 k3 : Nat) (r1 r2 r3 : List UInt8) (w : World) (g : Nat) (hg : w.heap.size = g) (h1 : RB w X1 m1 r1) (h2 : RB w X2 m2 r2) (h3 : RB w X3 m3 r3) (hlen : m1 + m2 + m3 ≤ 140737488355328) :
    Calls Try.prog 25 #[.slice (some ⟨g, 0, none⟩) 3 3] (w.alloc (.cells #[.slice X1 m1 k1, .slice X2 m2 k2, .slice X3 m3 k3] 22)) (Fresh w (r1 ++ (r2 ++ r3))) := by
  have := joins_any [(X1, m1, k1, r1), (X2, m2, k2, r2), (X3, m3, k3, r3)] 3 #[.slice X1 m1 k1, .slice X2 m2 k2, .slice X3 m3 k3] w g hg rfl (by omega) rfl (by
    intro x hx
    simp only [List.mem_cons, List.not_mem_nil, or_false] at hx
    rcases hx with rfl | rfl | rfl
    · exact h1
    · exact h2
    · exact h3) (by simp [h1.1, h2.1, h3.1]; omega)
  simpa only [List.flatMap_cons, List.flatMap_nil, List.append_nil] using this
theorem wr_bound (t : UInt8) (b : List UInt8) (h : b.length ≤ 65000) : (wrQ t b).length ≤ b.length + 4 := by
  rw [wr_len]
  split
  · omega
  · by_cases h2 : b.length < 256
    · rw [lenB_1 (by omega) (by omega)]; omega
    · rw [lenB_2 (by omega) (by omega)]; omega
theorem wr_head (t : UInt8) (b : List UInt8) : (wrQ t b).getD 0 0 = t := by unfold wrQ; split <;> rfl
theorem two_all (t1 t2 : UInt8) (h1 : t1.toNat % 32 ≠ 31) (h2 : t2.toNat % 32 ≠ 31) (a b : List UInt8) (ha : a.length ≤ 8192) (hb : b.length ≤ 8192) : allQ (wrQ t1 a ++ wrQ t2 b) = some [(wrQ t1 a, a), (wrQ t2 b, b)] := by
  rw [allQ_wr t1 h1 a _ (by omega)]
  have := allQ_wr t2 h2 b [] (by omega)
  rw [List.append_nil, allQ_nil] at this
  rw [this]; rfl
theorem three_all (t1 t2 : UInt8) (h1 : t1.toNat % 32 ≠ 31) (h2 : t2.toNat % 32 ≠ 31) (a b : List UInt8) (ha : a.length ≤ 8192) (hb : b.length ≤ 8192) : allQ (wrQ t1 a ++ (wrQ t2 b ++ [5])) = none := by
  rw [allQ_wr t1 h1 a _ (by omega), allQ_wr t2 h2 b [5] (by omega), allQ_none (by simp) (by decide)]
  rfl
theorem pair_of {vs : List EV} {a b c d : List UInt8} (h : vs.map (fun v => (v.raw, v.body)) = [(a, b), (c, d)]) : ∃ v u, vs = [v, u] ∧ v.raw = a ∧ v.body = b ∧ u.raw = c ∧ u.body = d := by
  match vs, h with
  | [v, u], h =>
    simp at h
    exact ⟨v, u, rfl, h.1.1, h.1.2, h.2.1, h.2.2⟩
end Go.Proofs.Ytamkbedbkjndgaa
