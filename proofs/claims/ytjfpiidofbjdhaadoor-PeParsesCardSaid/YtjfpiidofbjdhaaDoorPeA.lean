/-
  pe: an image's numbers, as plain data; the reader's number, has and need.
-/
import Derived.Test.YtjfpiidofbjdhaaDoorOctB2
import Derived.Test.YtjfpiidofbjdhaaDoorOctC1
import Derived.Test.YtjfpiidofbjdhaaDoorSg
import Derived.Test.YtjfpiidofbjdhaaDoorRow
import Derived.Deep.Cut
import Derived.Deep.DeepCutAuto
namespace Go.Proofs.YtjfpiidofbjdhaaDoor
open Go.RowKit Go
set_option linter.unusedVariables false
set_option maxRecDepth 100000
/-- The number of k bytes at a place; 0 where it is not within. -/
def numQ (bs : List UInt8) (a k : Nat) : Nat := if a + k ≤ bs.length then leN (cut bs a k) else 0
def inQ (bs : List UInt8) (a k : Nat) : Bool := decide (a + k ≤ bs.length)
theorem numQ_lt (bs : List UInt8) (a k : Nat) : numQ bs a k < 256 ^ k := by
  unfold numQ
  split
  · rename_i h
    have := leN_lt (cut bs a k)
    rwa [cut_len _ _ _ h] at this
  · exact Nat.pow_pos (by decide)
theorem numQ_lt4 (bs : List UInt8) (a : Nat) : numQ bs a 4 < 4294967296 := numQ_lt bs a 4
theorem numQ_lt2 (bs : List UInt8) (a : Nat) : numQ bs a 2 < 65536 := numQ_lt bs a 2
/-- An image's bytes, as they came in. -/
structure Img (w0 : World) (A : Option Addr) (n c : Nat) (bs : List UInt8) : Prop where
  r : RB w0 A n bs
  s : Sizes w0
  nc : n ≤ c
  cc : c ≤ 9223372036854775807
  big : n ≤ 16777216
/-- The reader in block g; what came in is as it was. -/
structure RdS (w0 : World) (g : Nat) (A : Option Addr) (n c : Nat) (R : Bool) (w : World) : Prop where
  h : w.heap[g]? = some (.cells #[.slice A n c, .bool R] 60)
  b : Below w0.heap.size w0 w
  g : w0.heap.size ≤ g
theorem RdS.step {w0 : World} {g : Nat} {A : Option Addr} {n c : Nat} {R R' : Bool} {w w' : World} (h : RdS w0 g A n c R w) (hg : w.grownBy w' (some g)) (h' : w'.heap[g]? = some (.cells #[.slice A n c, .bool R'] 60)) : RdS w0 g A n c R' w' :=
  ⟨h', h.b.grown hg h.b.size (fun k hk => by injection hk with hk; have := h.g; omega), h.g⟩
theorem RdS.keep {w0 : World} {g : Nat} {A : Option Addr} {n c : Nat} {R : Bool} {w w' : World} (h : RdS w0 g A n c R w) (hb : Below w.heap.size w w') : RdS w0 g A n c R w' :=
  ⟨has_below h.h hb, kp_call h.b hb, h.g⟩
theorem RdS.alloc {w0 : World} {g : Nat} {A : Option Addr} {n c : Nat} {R : Bool} {w : World} (h : RdS w0 g A n c R w) (o : Obj) : RdS w0 g A n c R (w.alloc o) := ⟨has_alloc h.h o, kp_alloc h.b o, h.g⟩
theorem RdS.drewN {w0 : World} {g : Nat} {A : Option Addr} {n c : Nat} {R : Bool} {w : World} (h : RdS w0 g A n c R w) (k : Nat) : RdS w0 g A n c R (w.drewN k) := ⟨h.h, kp_drewN h.b k, h.g⟩
theorem RdS.set {w0 : World} {g : Nat} {A : Option Addr} {n c : Nat} {R : Bool} {w : World} (h : RdS w0 g A n c R w) {q j : Nat} {u : Value} (hq : w0.heap.size ≤ q) (hne : g ≠ q) : RdS w0 g A n c R (w.setCell ⟨q, j, none⟩ u) :=
  ⟨has_set h.h hne, kp_set h.b hq, h.g⟩
theorem RdS.far {w0 : World} {g : Nat} {A : Option Addr} {n c : Nat} {R : Bool} {w w' : World} (h : RdS w0 g A n c R w) {q : Nat} (hg : w.grownBy w' (some q)) (hq : w0.heap.size ≤ q) (hne : g ≠ q) : RdS w0 g A n c R w' :=
  ⟨(hg.block g (block_lt h.h) (fun e => hne (Option.some.inj e))).trans h.h, h.b.grown hg h.b.size (fun k hk => by injection hk with hk; omega), h.g⟩
/-- What happens in a block that is new leaves what was as it is. -/
theorem gr_far {w W W' : World} {row : Option Nat} {q : Nat} (h : w.grownBy W row) (hg : W.grownBy W' (some q)) (hq : w.heap.size ≤ q) : w.grownBy W' row :=
  ⟨hg.os.trans h.os, hg.tape.trans h.tape, hg.output.trans h.output, Nat.le_trans h.size hg.size, fun i hi hne => (hg.block i (Nat.lt_of_lt_of_le hi h.size) (fun e => by injection e with e; omega)).trans (h.block i hi hne)⟩
/-- What leaves all but one block as it was, from an older world's view. -/
theorem gr_new {w W W' : World} {row : Option Nat} (h : w.grownBy W row) (hb : Below w.heap.size W W') : w.grownBy W' row :=
  ⟨hb.os.trans h.os, hb.tape.trans h.tape, hb.output.trans h.output, Nat.le_trans h.size hb.size, fun i hi hne => (hb.block i hi).trans (h.block i hi hne)⟩
section
variable {w0 : World} {g : Nat} {A : Option Addr} {n c : Nat} {bs : List UInt8} {R : Bool} {w : World}
theorem need_any (hb : Bool) (h : RdS w0 g A n c R w) :
    Calls Tryd.prog 44 #[.pointer (some ⟨g, 0, none⟩), .bool hb] w fun e w' => e = .returned (.tuple #[]) ∧ RdS w0 g A n c (R && hb) w' ∧ w.grownBy w' (some g) := by
  obtain ⟨c0, c1⟩ := cells_2 h.h
  obtain ⟨f0, f1⟩ := free_2 h.h
  have H := Lib.hid h
  have key : ∀ b, RdS w0 g A n c b (w.setCell ⟨g, 1, none⟩ (.bool b)) := fun b => H.out.step (grown_one w g 1 _) (by
    have h1 := heap_set_at _ g 1 _ _ _ (.bool b) H.out.h
    simp only [List.setIfInBounds_toArray, List.set_cons_zero, List.set_cons_succ] at h1
    exact h1)
  have HK := Lib.hid key
  clear h key
  cases R with
  | false =>
    go_enter Tryd.func44, Tryd.ntmps44
    go_wp2
    go_end0
    exact ⟨rfl, HK.out false, grown_one w g 1 _⟩
  | true =>
    go_enter Tryd.func44, Tryd.ntmps44
    go_wp2
    go_end0
    exact ⟨rfl, HK.out hb, grown_one w g 1 _⟩
theorem number_any (hI : Img w0 A n c bs) (ai : Int) (a k : Nat) (ha : ai = (a : Int)) (ha2 : a ≤ 1099511627776) (hk : k = 2 ∨ k = 4) (ki : Int) (hki : ki = (k : Int)) (h : RdS w0 g A n c R w) :
    Calls Tryd.prog 28 #[.pointer (some ⟨g, 0, none⟩), .int .i64 ai, .int .i64 ki] w fun e w' => e = .returned (.int .i64 (numQ bs a k : Nat)) ∧ RdS w0 g A n c (R && inQ bs a k) w' ∧ w.grownBy w' (some g) := by
  obtain ⟨c0, c1⟩ := cells_2 h.h
  have hR := hI.r.below h.b
  have hS := hI.s.below' h.b
  have hl := hI.r.1
  have hz : isSz k = true := by rcases hk with rfl | rfl <;> rfl
  have hkl : k ≤ 4 := by omega
  have hlt := numQ_lt bs a k
  have hnn := hI.big
  have H := Lib.hid h
  subst ha
  subst hki
  unfold numQ inQ at *
  by_cases hin : a + k ≤ bs.length
  · rw [if_pos hin] at hlt ⊢
    rw [decide_eq_true hin]
    have C := Lib.hid (get_ok A n c bs a k w hR hS (by omega) hz (by omega))
    have hx : leN (cut bs a k) < 4294967296 := Nat.lt_of_lt_of_le hlt (by rcases hk with rfl | rfl <;> decide)
    obtain ⟨x, hxx⟩ : ∃ x, leN (cut bs a k) = x := ⟨_, rfl⟩
    rw [hxx] at C hx ⊢
    clear hxx hlt hz h hR hS
    have N := Lib.hid (need_any true H.out)
    go_enter Tryd.func28, Tryd.ntmps28
    go_wp2_with fail
    (with_reducible refine C.out.mono ?_)
    rintro e w' ⟨rfl, rfl⟩
    go_wp2_with fail
    (with_reducible refine N.out.mono ?_)
    rintro e w' ⟨rfl, h1, h2⟩
    have HH := Lib.hid (And.intro h1 h2)
    clear h1 h2
    go_wp2_with fail
    go_ret
    exact ⟨rfl, HH.out⟩
  · rw [if_neg hin]
    rw [decide_eq_false hin]
    have C := Lib.hid (get_not A n c a k w hS (by omega) (by omega) (by omega) (.inr (by simp [inB]; omega)))
    clear hlt hz h hR hS
    have N := Lib.hid (need_any false H.out)
    go_enter Tryd.func28, Tryd.ntmps28
    go_wp2_with fail
    (with_reducible refine C.out.mono ?_)
    rintro e w' ⟨rfl, rfl⟩
    go_wp2_with fail
    (with_reducible refine N.out.mono ?_)
    rintro e w' ⟨rfl, h1, h2⟩
    have HH := Lib.hid (And.intro h1 h2)
    clear h1 h2
    go_wp2_with fail
    go_ret
    exact ⟨rfl, HH.out⟩
end
end Go.Proofs.YtjfpiidofbjdhaaDoor
