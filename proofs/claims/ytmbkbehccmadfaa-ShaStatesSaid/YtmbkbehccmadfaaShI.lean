/-
  sha: a step of the sum.
-/
import Derived.Test.YtmbkbehccmadfaaShH
namespace Go.Proofs.Ytmbkbehccmadfaa
open Go.RowKit Go
set_option linter.unusedVariables false
set_option linter.unusedSimpArgs false
set_option maxRecDepth 100000
/-- The eight words, as they turn. -/
structure V8 where
  a : Nat
  b : Nat
  c : Nat
  d : Nat
  e : Nat
  f : Nat
  g : Nat
  h : Nat
def V8.list (v : V8) : List Nat := [v.a, v.b, v.c, v.d, v.e, v.f, v.g, v.h]
structure V8.Ok (v : V8) : Prop where
  a : v.a < 4294967296
  b : v.b < 4294967296
  c : v.c < 4294967296
  d : v.d < 4294967296
  e : v.e < 4294967296
  f : v.f < 4294967296
  g : v.g < 4294967296
  h : v.h < 4294967296
def bg1 (e : Nat) : Nat := (rotr e 6 ^^^ rotr e 11) ^^^ rotr e 25
def bg0 (a : Nat) : Nat := (rotr a 2 ^^^ rotr a 13) ^^^ rotr a 22
def chW (e f g : Nat) : Nat := (e &&& f) ^^^ ((4294967295 - e) &&& g)
def mjW (a b c : Nat) : Nat := ((a &&& b) ^^^ (a &&& c)) ^^^ (b &&& c)
def oneW (v : V8) (k w : Nat) : Nat := ((((v.h + bg1 v.e) % 4294967296 + chW v.e v.f v.g) % 4294967296 + k) % 4294967296 + w) % 4294967296
def twoW (v : V8) : Nat := (bg0 v.a + mjW v.a v.b v.c) % 4294967296
def stepW (v : V8) (k w : Nat) : V8 := ⟨(oneW v k w + twoW v) % 4294967296, v.a, v.b, v.c, (v.d + oneW v k w) % 4294967296, v.e, v.f, v.g⟩
def goW (v : V8) (ks ws : List Nat) : Nat → V8
  | 0 => v
  | t + 1 => stepW (goW v ks ws t) (ks.getD t 0) (ws.getD t 0)
def addV (v u : V8) : V8 := ⟨(v.a + u.a) % 4294967296, (v.b + u.b) % 4294967296, (v.c + u.c) % 4294967296, (v.d + u.d) % 4294967296, (v.e + u.e) % 4294967296, (v.f + u.f) % 4294967296, (v.g + u.g) % 4294967296, (v.h + u.h) % 4294967296⟩
def blockW (v : V8) (ks bs : List Nat) : V8 := addV v (goW v ks (schW bs) 64)
theorem stepW_ok (v : V8) (k w : Nat) (h : v.Ok) : (stepW v k w).Ok := ⟨Nat.mod_lt _ (by decide), h.a, h.b, h.c, Nat.mod_lt _ (by decide), h.e, h.f, h.g⟩
theorem goW_ok (v : V8) (ks ws : List Nat) (h : v.Ok) (t : Nat) : (goW v ks ws t).Ok := by induction t with
  | zero => exact h
  | succ t ih => exact stepW_ok _ _ _ ih
theorem addV_ok (v u : V8) : (addV v u).Ok := ⟨Nat.mod_lt _ (by decide), Nat.mod_lt _ (by decide), Nat.mod_lt _ (by decide), Nat.mod_lt _ (by decide), Nat.mod_lt _ (by decide), Nat.mod_lt _ (by decide), Nat.mod_lt _ (by decide), Nat.mod_lt _ (by decide)⟩
theorem bg1_lt (x : Nat) (h : x < 4294967296) : bg1 x < 4294967296 := Nat.xor_lt_two_pow (n := 32) (Nat.xor_lt_two_pow (rotr_lt x 6 h) (rotr_lt x 11 h)) (rotr_lt x 25 h)
theorem bg0_lt (x : Nat) (h : x < 4294967296) : bg0 x < 4294967296 := Nat.xor_lt_two_pow (n := 32) (Nat.xor_lt_two_pow (rotr_lt x 2 h) (rotr_lt x 13 h)) (rotr_lt x 22 h)
theorem bg1_bits (x : Nat) (h : x < 4294967296) : bits .xor .u32 (bits .xor .u32 ((rotr x 6 : Nat) : Int) ((rotr x 11 : Nat) : Int)) ((rotr x 25 : Nat) : Int) = ((bg1 x : Nat) : Int) := by
  rw [u32_xor_nat _ _ (rotr_lt x 6 h) (rotr_lt x 11 h), u32_xor_nat _ _ (Nat.xor_lt_two_pow (n := 32) (rotr_lt x 6 h) (rotr_lt x 11 h)) (rotr_lt x 25 h)]
  rfl
theorem bg0_bits (x : Nat) (h : x < 4294967296) : bits .xor .u32 (bits .xor .u32 ((rotr x 2 : Nat) : Int) ((rotr x 13 : Nat) : Int)) ((rotr x 22 : Nat) : Int) = ((bg0 x : Nat) : Int) := by
  rw [u32_xor_nat _ _ (rotr_lt x 2 h) (rotr_lt x 13 h), u32_xor_nat _ _ (Nat.xor_lt_two_pow (n := 32) (rotr_lt x 2 h) (rotr_lt x 13 h)) (rotr_lt x 22 h)]
  rfl
theorem chW_lt (e f g : Nat) (he : e < 4294967296) (hf : f < 4294967296) (hg : g < 4294967296) : chW e f g < 4294967296 :=
  Nat.xor_lt_two_pow (n := 32) (Nat.lt_of_le_of_lt Nat.and_le_left he) (Nat.lt_of_le_of_lt Nat.and_le_right hg)
theorem mjW_lt (a b c : Nat) (ha : a < 4294967296) (hb : b < 4294967296) (hc : c < 4294967296) : mjW a b c < 4294967296 :=
  Nat.xor_lt_two_pow (n := 32) (Nat.xor_lt_two_pow (Nat.lt_of_le_of_lt Nat.and_le_left ha) (Nat.lt_of_le_of_lt Nat.and_le_left ha)) (Nat.lt_of_le_of_lt Nat.and_le_left hb)
theorem chW_bits (e f g : Nat) (he : e < 4294967296) (hf : f < 4294967296) (hg : g < 4294967296) (m : Int) (hm : m = ((4294967295 - e : Nat) : Int)) :
    bits .xor .u32 (bits .and .u32 (e : Int) (f : Int)) (bits .and .u32 m (g : Int)) = ((chW e f g : Nat) : Int) := by
  rw [hm, u32_and_nat _ _ he hf, u32_and_nat _ _ (by omega) hg, u32_xor_nat _ _ (Nat.lt_of_le_of_lt Nat.and_le_left he) (Nat.lt_of_le_of_lt Nat.and_le_right hg)]
  rfl
theorem mjW_bits (a b c : Nat) (ha : a < 4294967296) (hb : b < 4294967296) (hc : c < 4294967296) :
    bits .xor .u32 (bits .xor .u32 (bits .and .u32 (a : Int) (b : Int)) (bits .and .u32 (a : Int) (c : Int))) (bits .and .u32 (b : Int) (c : Int)) = ((mjW a b c : Nat) : Int) := by
  rw [u32_and_nat _ _ ha hb, u32_and_nat _ _ ha hc, u32_and_nat _ _ hb hc, u32_xor_nat _ _ (Nat.lt_of_le_of_lt Nat.and_le_left ha) (Nat.lt_of_le_of_lt Nat.and_le_left ha), u32_xor_nat _ _ (Nat.xor_lt_two_pow (n := 32) (Nat.lt_of_le_of_lt Nat.and_le_left ha) (Nat.lt_of_le_of_lt Nat.and_le_left ha)) (Nat.lt_of_le_of_lt Nat.and_le_left hb)]
  rfl
end Go.Proofs.Ytmbkbehccmadfaa
