/-
  sha: the schedule of a block.
-/
import Derived.Test.YtmbkbehccmadfaaShF
import Derived.BigRegion
import Derived.Deep.RegionHeld3
import Derived.Laws.BitsAllLaws
namespace Go.Proofs.Ytmbkbehccmadfaa
open Go.RowKit Go
set_option linter.unusedVariables false
set_option linter.unusedSimpArgs false
set_option maxRecDepth 100000
abbrev v8 (x : Nat) : Value := .int .u8 (x : Int)
/-- A word of four bytes, the highest first. -/
def be32 (a b c d : Nat) : Nat := ((a * 16777216 ||| b * 65536) ||| c * 256) ||| d
theorem be32_lt (a b c d : Nat) (ha : a < 256) (hb : b < 256) (hc : c < 256) (hd : d < 256) : be32 a b c d < 4294967296 := by
  unfold be32
  exact Nat.or_lt_two_pow (n := 32) (Nat.or_lt_two_pow (Nat.or_lt_two_pow (by omega) (by omega)) (by omega)) (by omega)
theorem be32_bits (a b c d : Nat) (ha : a < 256) (hb : b < 256) (hc : c < 256) (hd : d < 256) :
    bits .or .u32 (bits .or .u32 (bits .or .u32 ((a : Int) * 16777216) ((b : Int) * 65536)) ((c : Int) * 256)) (d : Int) = ((be32 a b c d : Nat) : Int) := by
  have e1 : (a : Int) * 16777216 = ((a * 16777216 : Nat) : Int) := by omega
  have e2 : (b : Int) * 65536 = ((b * 65536 : Nat) : Int) := by omega
  have e3 : (c : Int) * 256 = ((c * 256 : Nat) : Int) := by omega
  have l1 : (a * 16777216 ||| b * 65536) < 4294967296 := Nat.or_lt_two_pow (n := 32) (by omega) (by omega)
  have l2 : ((a * 16777216 ||| b * 65536) ||| c * 256) < 4294967296 := Nat.or_lt_two_pow (n := 32) l1 (by omega)
  rw [e1, e2, e3, u32_or_nat _ _ (by omega) (by omega), u32_or_nat _ _ l1 (by omega), u32_or_nat _ _ l2 (by omega)]
  rfl
def sg0 (x : Nat) : Nat := (rotr x 7 ^^^ rotr x 18) ^^^ (x / 8)
def sg1 (x : Nat) : Nat := (rotr x 17 ^^^ rotr x 19) ^^^ (x / 1024)
theorem sg0_lt (x : Nat) (h : x < 4294967296) : sg0 x < 4294967296 := Nat.xor_lt_two_pow (n := 32) (Nat.xor_lt_two_pow (rotr_lt x 7 h) (rotr_lt x 18 h)) (by omega)
theorem sg1_lt (x : Nat) (h : x < 4294967296) : sg1 x < 4294967296 := Nat.xor_lt_two_pow (n := 32) (Nat.xor_lt_two_pow (rotr_lt x 17 h) (rotr_lt x 19 h)) (by omega)
theorem sg0_bits (x : Nat) (h : x < 4294967296) : bits .xor .u32 (bits .xor .u32 ((rotr x 7 : Nat) : Int) ((rotr x 18 : Nat) : Int)) ((x : Int) / 8) = ((sg0 x : Nat) : Int) := by
  have e : (x : Int) / 8 = ((x / 8 : Nat) : Int) := by omega
  rw [e, u32_xor_nat _ _ (rotr_lt x 7 h) (rotr_lt x 18 h), u32_xor_nat _ _ (Nat.xor_lt_two_pow (n := 32) (rotr_lt x 7 h) (rotr_lt x 18 h)) (by omega)]
  rfl
theorem sg1_bits (x : Nat) (h : x < 4294967296) : bits .xor .u32 (bits .xor .u32 ((rotr x 17 : Nat) : Int) ((rotr x 19 : Nat) : Int)) ((x : Int) / 1024) = ((sg1 x : Nat) : Int) := by
  have e : (x : Int) / 1024 = ((x / 1024 : Nat) : Int) := by omega
  rw [e, u32_xor_nat _ _ (rotr_lt x 17 h) (rotr_lt x 19 h), u32_xor_nat _ _ (Nat.xor_lt_two_pow (n := 32) (rotr_lt x 17 h) (rotr_lt x 19 h)) (by omega)]
  rfl
def nxtW (a x c y : Nat) : Nat := (((a + sg0 x) % 4294967296 + c) % 4294967296 + sg1 y) % 4294967296
def firstW (bs : List Nat) : Nat → List Nat
  | 0 => []
  | k + 1 => firstW bs k ++ [be32 (bs.getD (4 * k) 0) (bs.getD (4 * k + 1) 0) (bs.getD (4 * k + 2) 0) (bs.getD (4 * k + 3) 0)]
def addW (l : List Nat) (k : Nat) : List Nat := l ++ [nxtW (l.getD k 0) (l.getD (k + 1) 0) (l.getD (k + 9) 0) (l.getD (k + 14) 0)]
def restW (l : List Nat) : Nat → List Nat
  | 0 => l
  | k + 1 => addW (restW l k) k
def schW (bs : List Nat) : List Nat := restW (firstW bs 16) 48
theorem firstW_len (bs : List Nat) (k : Nat) : (firstW bs k).length = k := by induction k with
  | zero => rfl
  | succ k ih => simp [firstW, ih]
theorem restW_len (l : List Nat) (k : Nat) : (restW l k).length = l.length + k := by induction k with
  | zero => rfl
  | succ k ih => simp [restW, addW, ih]; omega
theorem part32_get (n : Nat) (l : List Nat) (i : Nat) (h : i < l.length) : (part32 n l)[i]? = some (v32 (l.getD i 0)) := by
  unfold part32
  rw [List.getElem?_append_left (by simpa using h), List.getElem?_map, List.getElem?_eq_getElem h, List.getD_eq_getElem?_getD, List.getElem?_eq_getElem h]
  rfl
theorem firstW_lt (bs : List Nat) (hb : ∀ x ∈ bs, x < 256) (k : Nat) : ∀ x ∈ firstW bs k, x < 4294967296 := by
  have hg : ∀ i, bs.getD i 0 < 256 := fun i => by
    rw [List.getD_eq_getElem?_getD]
    cases h : bs[i]? with
    | none => simp
    | some y => exact hb y (List.mem_of_getElem? h)
  induction k with
  | zero => intro x hx; cases hx
  | succ k ih =>
    intro x hx
    rcases List.mem_append.1 hx with hx | hx
    · exact ih x hx
    · rw [List.mem_singleton.1 hx]
      exact be32_lt _ _ _ _ (hg _) (hg _) (hg _) (hg _)
theorem restW_lt (l : List Nat) (hl : ∀ x ∈ l, x < 4294967296) (k : Nat) : ∀ x ∈ restW l k, x < 4294967296 := by
  induction k with
  | zero => exact hl
  | succ k ih =>
    intro x hx
    rcases List.mem_append.1 hx with hx | hx
    · exact ih x hx
    · rw [List.mem_singleton.1 hx]
      exact Nat.mod_lt _ (by decide)
theorem getD_lt (l : List Nat) (m : Nat) (hm : 0 < m) (h : ∀ x ∈ l, x < m) (i : Nat) : l.getD i 0 < m := by
  rw [List.getD_eq_getElem?_getD]
  cases hh : l[i]? with
  | none => simpa using hm
  | some y => exact h y (List.mem_of_getElem? hh)
end Go.Proofs.Ytmbkbehccmadfaa
