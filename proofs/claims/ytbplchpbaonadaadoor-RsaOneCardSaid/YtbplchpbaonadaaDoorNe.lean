/-
  nat: the carries: closures that keep what is over.
-/
import Derived.Test.YtbplchpbaonadaaDoorNd
namespace Go.Proofs.YtbplchpbaonadaaDoor
open Go.RowKit Go
set_option linter.unusedVariables false
set_option linter.unusedSimpArgs false
set_option maxRecDepth 100000
/-- A variable of 64 bits of its own. -/
def Cy (w : World) (h : Nat) (x : Nat) : Prop := w.heap[h]? = some (.cells #[.int .u64 (x : Int)] 24 (0, 0))
def Cw (w : World) (h : Nat) (x : Nat) : Prop := w.heap[h]? = some (.cells #[.int .u32 (x : Int)] 59 (0, 0))
theorem Cy.lt {w : World} {h x : Nat} (k : Cy w h x) : h < w.heap.size := (Array.getElem?_eq_some_iff.1 k).1
theorem Cw.lt {w : World} {h x : Nat} (k : Cw w h x) : h < w.heap.size := (Array.getElem?_eq_some_iff.1 k).1
theorem Cy.drew {w : World} {h x : Nat} (k : Cy w h x) : Cy w.drew h x := k
theorem Cw.drew {w : World} {h x : Nat} (k : Cw w h x) : Cw w.drew h x := k
theorem Cy.below {w w' : World} {h x : Nat} (k : Cy w h x) (hb : Below w.heap.size w w') : Cy w' h x := (hb.block _ k.lt).trans k
theorem Cw.below {w w' : World} {h x : Nat} (k : Cw w h x) (hb : Below w.heap.size w w') : Cw w' h x := (hb.block _ k.lt).trans k
theorem Cy.cell {w : World} {h x : Nat} (k : Cy w h x) : w.cell? ⟨h, 0, none⟩ = some (.int .u64 (x : Int)) := cells_1 k
theorem Cw.cell {w : World} {h x : Nat} (k : Cw w h x) : w.cell? ⟨h, 0, none⟩ = some (.int .u32 (x : Int)) := cells_1 k
theorem Cy.free {w : World} {h x : Nat} (k : Cy w h x) : w.frozen? ⟨h, 0, none⟩ = false := free_1 k
theorem Cy.set {w : World} {h x : Nat} (k : Cy w h x) (y : Nat) : Cy (w.setCell ⟨h, 0, none⟩ (.int .u64 (y : Int))) h y := set_1 k
theorem Cy.far {w : World} {h x g j : Nat} {u : Value} (k : Cy w h x) (hne : h ≠ g) : Cy (w.setCell ⟨g, j, none⟩ u) h x := has_set k hne
theorem Cw.far {w : World} {h x g j : Nat} {u : Value} (k : Cw w h x) (hne : h ≠ g) : Cw (w.setCell ⟨g, j, none⟩ u) h x := has_set k hne
theorem Cy.ne {w : World} {h x g : Nat} {L : List Nat} (k : Cy w h x) (b : BlkU w g L) : g ≠ h := by
  rintro rfl
  unfold Cy at k
  unfold BlkU at b
  rw [b] at k
  injection k with k
  injection k with _ k2
  exact absurd k2 (by decide)
theorem adder_new (w : World) : Calls Tryd.prog 78 #[] w fun e w' => e = .returned (.func (Fn.func 82) #[] #[.pointer (some ⟨w.heap.size, 0, none⟩)]) ∧ w' = w.alloc (.cells #[.int .u64 0] 24) := by
  go_enter Tryd.func78, Tryd.ntmps78
  go_wp2
  go_ret
  exact ⟨rfl, rfl⟩
theorem taker_new (w : World) : Calls Tryd.prog 77 #[] w fun e w' => e = .returned (.func (Fn.func 81) #[] #[.pointer (some ⟨w.heap.size, 0, none⟩)]) ∧ w' = w.alloc (.cells #[.int .u64 0] 24) := by
  go_enter Tryd.func77, Tryd.ntmps77
  go_wp2
  go_ret
  exact ⟨rfl, rfl⟩
theorem mult_new (f : Nat) (w : World) : Calls Tryd.prog 67 #[.int .u32 (f : Int)] w fun e w' => e = .returned (.func (Fn.func 79) #[] #[.pointer (some ⟨w.heap.size, 0, none⟩), .pointer (some ⟨w.heap.size + 1, 0, none⟩)]) ∧ w' = (w.alloc (.cells #[.int .u32 (f : Int)] 59)).alloc (.cells #[.int .u64 0] 24) := by
  go_enter Tryd.func67, Tryd.ntmps67
  go_wp2
  go_ret
  exact ⟨rfl, rfl⟩
theorem add_one (h a b c : Nat) (w : World) (hc : Cy w h c) (ha : a < 4294967296) (hb : b < 4294967296) (hcl : c < 4294967296) :
    Calls Tryd.prog 82 #[.int .u32 (a : Int), .int .u32 (b : Int), .pointer (some ⟨h, 0, none⟩)] w fun e w' => e = .returned (.int .u32 (((a + b + c) % 4294967296 : Nat) : Int)) ∧ w' = w.setCell ⟨h, 0, none⟩ (.int .u64 (((a + b + c) / 4294967296 : Nat) : Int)) := by
  have k1 := hc.cell
  have k2 := hc.free
  obtain ⟨s, hs⟩ : ∃ s, a + b + c = s := ⟨_, rfl⟩
  have e1 : IntKind.u64.wrap ((a : Int) + (b : Int)) = (a : Int) + b := IntWalk.u64_in _ (by omega)
  have e2 : IntKind.u64.wrap ((a : Int) + (b : Int) + (c : Int)) = (s : Int) := by rw [show (a : Int) + b + c = s by omega]; exact IntWalk.u64_in _ (by omega)
  have hsl : s < 18446744073709551616 := by omega
  have e3 : (s : Int) / 4294967296 = ((s / 4294967296 : Nat) : Int) := by omega
  have e4 : (s : Int) % 4294967296 = ((s % 4294967296 : Nat) : Int) := by omega
  obtain ⟨q, hq⟩ : ∃ q, s / 4294967296 = q := ⟨_, rfl⟩
  obtain ⟨r, hr⟩ : ∃ r, s % 4294967296 = r := ⟨_, rfl⟩
  rw [hs, hq, hr]
  rw [hq] at e3
  rw [hr] at e4
  have HS := Lib.hid hs
  have HQ := Lib.hid hq
  have HR := Lib.hid hr
  have HC := Lib.hid hc
  clear hs hq hr hc
  go_enter Tryd.func82, Tryd.ntmps82
  go_wp2
  go_ret
  refine ⟨?_, rfl⟩
  show Ending.returned (.int .u32 ((s : Int) % 4294967296)) = _
  rw [e4]
theorem take_one (h a p b l o : Nat) (w : World) (hc : Cy w h b) (ha : a < 4294967296) (hp : p < 4294967296) (hb : b ≤ 1)
    (h1 : ((a : Int) - p - b) % 18446744073709551616 / 9223372036854775808 = (o : Int)) (h2 : ((a : Int) - p - b) % 18446744073709551616 % 4294967296 = (l : Int)) :
    Calls Tryd.prog 81 #[.int .u32 (a : Int), .int .u32 (p : Int), .pointer (some ⟨h, 0, none⟩)] w fun e w' => e = .returned (.int .u32 (l : Int)) ∧ w' = w.setCell ⟨h, 0, none⟩ (.int .u64 (o : Int)) := by
  have k1 := hc.cell
  have k2 := hc.free
  obtain ⟨x, hx⟩ : ∃ x : Nat, ((a : Int) - p) % 18446744073709551616 = (x : Int) := ⟨(((a : Int) - p) % 18446744073709551616).toNat, by omega⟩
  obtain ⟨s, hs⟩ : ∃ s : Nat, ((a : Int) - p - b) % 18446744073709551616 = (s : Int) := ⟨(((a : Int) - p - b) % 18446744073709551616).toNat, by omega⟩
  have e1 : IntKind.u64.wrap ((a : Int) - (p : Int)) = (x : Int) := by rw [IntKind.wrap_u64]; exact hx
  have e2 : IntKind.u64.wrap ((x : Int) - (b : Int)) = (s : Int) := by rw [IntKind.wrap_u64, ← hs]; omega
  rw [hs] at h1 h2
  have H2 := Lib.hid h2
  have HC := Lib.hid hc
  clear hs hx h2 hc
  go_enter Tryd.func81, Tryd.ntmps81
  go_wp2
  go_ret
  refine ⟨?_, rfl⟩
  show Ending.returned (.int .u32 ((s : Int) % 4294967296)) = _
  rw [H2.out]
theorem mult_one (h g f a b c : Nat) (w : World) (hc : Cy w h c) (hf : Cw w g f) (hfl : f < 4294967296) (ha : a < 4294967296) (hb : b < 4294967296) (hcl : c < 4294967296) :
    Calls Tryd.prog 79 #[.int .u32 (a : Int), .int .u32 (b : Int), .pointer (some ⟨g, 0, none⟩), .pointer (some ⟨h, 0, none⟩)] w fun e w' => e = .returned (.int .u32 (((a + b * f + c) % 4294967296 : Nat) : Int)) ∧ w' = w.setCell ⟨h, 0, none⟩ (.int .u64 (((a + b * f + c) / 4294967296 : Nat) : Int)) := by
  have k1 := hc.cell
  have k2 := hc.free
  have k3 := hf.cell
  have hm1 : b * f ≤ 4294967295 * 4294967295 := Nat.mul_le_mul (by omega) (by omega)
  have hmi : (b : Int) * (f : Int) = ((b * f : Nat) : Int) := by push_cast; rfl
  generalize b * f = m at *
  obtain ⟨am, ham⟩ : ∃ am, a + m = am := ⟨_, rfl⟩
  obtain ⟨s, hs⟩ : ∃ s, am + c = s := ⟨_, rfl⟩
  rw [ham, hs]
  have e1 : IntKind.u64.wrap ((b : Int) * (f : Int)) = (m : Int) := by rw [hmi]; exact IntWalk.u64_in _ (by omega)
  have e2 : IntKind.u64.wrap ((a : Int) + (m : Int)) = (am : Int) := by rw [show (a : Int) + m = am by omega]; exact IntWalk.u64_in _ (by omega)
  have e5 : IntKind.u64.wrap ((am : Int) + (c : Int)) = (s : Int) := by rw [show (am : Int) + c = s by omega]; exact IntWalk.u64_in _ (by omega)
  have e3 : (s : Int) / 4294967296 = ((s / 4294967296 : Nat) : Int) := by omega
  have e4 : (s : Int) % 4294967296 = ((s % 4294967296 : Nat) : Int) := by omega
  have hsl : s < 18446744073709551616 := by omega
  obtain ⟨q, hq⟩ : ∃ q, s / 4294967296 = q := ⟨_, rfl⟩
  obtain ⟨r, hr⟩ : ∃ r, s % 4294967296 = r := ⟨_, rfl⟩
  rw [hq, hr]
  rw [hq] at e3
  rw [hr] at e4
  have HC := Lib.hid hc
  have HF := Lib.hid hf
  have E4 := Lib.hid e4
  clear hs hq hr hc hf ham hmi hm1 e4
  go_enter Tryd.func79, Tryd.ntmps79
  go_wp2
  go_ret
  refine ⟨?_, rfl⟩
  show Ending.returned (.int .u32 ((s : Int) % 4294967296)) = _
  rw [E4.out]
end Go.Proofs.YtbplchpbaonadaaDoor
