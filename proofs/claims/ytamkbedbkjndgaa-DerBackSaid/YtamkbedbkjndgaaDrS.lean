/-
  der: split.
-/
import Derived.Test.YtamkbedbkjndgaaRef
import Derived.Test.YtamkbedbkjndgaaDrP
import Derived.Laws.BitsLemmas
import Derived.Laws.BitsAllLaws
import Derived.BigQuiet
namespace Go.Proofs.Ytamkbedbkjndgaa
open Go.RowKit Go
set_option linter.unusedVariables false
set_option maxRecDepth 100000
theorem or8i (X : Int) (q : UInt8) (h0 : 0 ≤ X) (h1 : X < 16777216) : bits BinOp.or IntKind.i64 (X * 256) (q.toNat : Int) = X * 256 + (q.toNat : Int) := by
  have hq := q.toNat_lt
  exact bits_join .i64 63 (by decide) (fun n h₀ h₁ => by rw [IntKind.wrap_i64]; omega) 8 (X * 256) (q.toNat : Int) (by omega) (by omega) (by omega) (by omega) (by omega) (by omega)
theorem and31 (p : UInt8) : bits BinOp.and IntKind.u8 (p.toNat : Int) 31 = (p.toNat : Int) % 32 := by
  have hp := p.toNat_lt
  have := u8_and_nat p.toNat 31 (by omega) (by omega)
  rw [nat_mask5] at this
  exact this.trans (by omega)
def SplitPost (w : World) (bs : List UInt8) (e : Ending) (w' : World) : Prop :=
  (match splitQ bs with
    | some (s, t) => e = .returned (.tuple #[.int .i64 (s : Nat), .int .i64 (t : Nat), .bool true])
    | none => ∃ s t : Int, e = .returned (.tuple #[.int .i64 s, .int .i64 t, .bool false])) ∧ ∃ k, w' = w.drewN k
theorem split_no {w w' : World} {bs : List UInt8} {s t : Int} (h : splitQ bs = none) (k : Nat) (hw : w' = w.drewN k) : SplitPost w bs (.returned (.tuple #[.int .i64 s, .int .i64 t, .bool false])) w' := by
  unfold SplitPost; rw [h]; exact ⟨⟨s, t, rfl⟩, k, hw⟩
theorem split_yes {w w' : World} {bs : List UInt8} {s t : Nat} (h : splitQ bs = some (s, t)) (k : Nat) (hw : w' = w.drewN k) : SplitPost w bs (.returned (.tuple #[.int .i64 (s : Nat), .int .i64 (t : Nat), .bool true])) w' := by
  unfold SplitPost; rw [h]; exact ⟨rfl, k, hw⟩
theorem split_s (A : Option Addr) (n c : Nat) (bs : List UInt8) (w : World) (h : splitQ bs = none) (h2 : n < 2) :
    Calls Try.prog 45 #[.slice A n c] w (SplitPost w bs) := by
  have H := Lib.hid h
  clear h
  go_enter Try.func45, Try.ntmps45
  go_wp2
  go_ret3
  exact split_no H.out 0 rfl
theorem split_t (b off n c : Nat) (bs : List UInt8) (w : World) (h : splitQ bs = none) (hn : n ≤ 140737488355328) (h2 : 2 ≤ n) (p : UInt8) (h0 : w.cell? ⟨b, off, none⟩ = some (.int .u8 (p.toNat : Int))) (hp : p.toNat % 32 = 31) :
    Calls Try.prog 45 #[.slice (some ⟨b, off, none⟩) n c] w (SplitPost w bs) := by
  have H := Lib.hid h
  clear h
  have ha := and31 p
  have hp31 : ((p.toNat : Int) % 32 == 31) = true := by simp; omega
  go_enter Try.func45, Try.ntmps45
  go_wp2
  go_ret3
  exact split_no H.out 0 rfl
theorem split_short (b off n c : Nat) (bs : List UInt8) (w : World) (hn : n ≤ 140737488355328) (h2 : 2 ≤ n) (p q : UInt8) (h0 : w.cell? ⟨b, off, none⟩ = some (.int .u8 (p.toNat : Int))) (hp : p.toNat % 32 ≠ 31)
    (h1 : w.cell? ⟨b, off + 1, none⟩ = some (.int .u8 (q.toNat : Int))) (hq : q.toNat < 128)
    (h : splitQ bs = if q.toNat ≤ n - 2 then some (2, 2 + q.toNat) else none) :
    Calls Try.prog 45 #[.slice (some ⟨b, off, none⟩) n c] w (SplitPost w bs) := by
  have H := Lib.hid h
  clear h
  have ha := and31 p
  have hp31 : ((p.toNat : Int) % 32 == 31) = false := by simp; omega
  by_cases hfit : q.toNat ≤ n - 2
  · have hle : decide (((q.toNat : Nat) : Int) ≤ (n : Int) - 2) = true := by simp; omega
    go_enter Try.func45, Try.ntmps45
    go_wp2
    go_quiet (fail)
    go_wp2
    go_ret3
    exact split_yes (s := 2) (t := 2 + q.toNat) (H.out.trans (if_pos hfit)) _ rfl
  · have hle : decide (((q.toNat : Nat) : Int) ≤ (n : Int) - 2) = false := by simp; omega
    go_enter Try.func45, Try.ntmps45
    go_wp2
    go_quiet (fail)
    go_wp2
    go_ret3
    exact split_no (H.out.trans (if_neg hfit)) _ rfl
theorem split_long_no (b off n c : Nat) (bs : List UInt8) (w : World) (hn : n ≤ 140737488355328) (h2 : 2 ≤ n) (p q : UInt8) (h0 : w.cell? ⟨b, off, none⟩ = some (.int .u8 (p.toNat : Int))) (hp : p.toNat % 32 ≠ 31)
    (h1 : w.cell? ⟨b, off + 1, none⟩ = some (.int .u8 (q.toNat : Int))) (hq : 128 ≤ q.toNat) (h : splitQ bs = none) (hno : q.toNat = 128 ∨ 132 < q.toNat ∨ n < 2 + (q.toNat - 128)) :
    Calls Try.prog 45 #[.slice (some ⟨b, off, none⟩) n c] w (SplitPost w bs) := by
  have H := Lib.hid h
  clear h
  have ha := and31 p
  have hp31 : ((p.toNat : Int) % 32 == 31) = false := by simp; omega
  have hqb : (q.toNat : Int) ≤ 255 := by have := q.toNat_lt; omega
  by_cases a1 : q.toNat = 128
  · have e1 : (q.toNat : Int) ≤ 128 := by omega
    have e2 : (128 : Int) ≤ (q.toNat : Int) := by omega
    clear hno a1
    go_enter Try.func45, Try.ntmps45
    go_wp2
    go_ret3
    exact split_no H.out 0 rfl
  by_cases a2 : 132 < q.toNat
  · clear hno
    go_enter Try.func45, Try.ntmps45
    go_wp2
    go_ret3
    exact split_no H.out 0 rfl
  · have a3 : n < 2 + (q.toNat - 128) := by omega
    clear hno
    go_enter Try.func45, Try.ntmps45
    go_wp2
    go_ret3
    exact split_no H.out 0 rfl
end Go.Proofs.Ytamkbedbkjndgaa
