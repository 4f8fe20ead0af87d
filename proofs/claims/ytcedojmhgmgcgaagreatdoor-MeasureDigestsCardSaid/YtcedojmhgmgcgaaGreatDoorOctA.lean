/-
  octet: sizes, what is within, and numbers in bytes.
-/
import Derived.Test.YtcedojmhgmgcgaaGreatDoorRef
import Derived.Laws.Rows
import Derived.LoopN
import Derived.Lib.LaidTab
import Derived.WalkSmall
import Derived.Laws.BitsAllLaws
namespace Go.Proofs.YtcedojmhgmgcgaaGreatDoor
open Go.RowKit Go
set_option linter.unusedVariables false

def sizesZ : List Int := [1, 2, 4, 8]
/-- The table of sizes is as it was laid. -/
def Sizes (w : World) : Prop := 0 < w.heap.size ∧ Lib.TabIs Tryz.prog w "lintel/octet.sizes" .i64 sizesZ
theorem g_sizes : Tryz.prog.globalNamed "lintel/octet.sizes" = some 0 := by kernel_rfl
theorem Sizes.below {w w' : World} {B : Nat} (h : Sizes w) (hb : Below B w w') (hB : 0 < B) : Sizes w' :=
  ⟨Nat.lt_of_lt_of_le h.1 hb.size, var?_below hb g_sizes hB h.2⟩
theorem Sizes.below' {w w' : World} (h : Sizes w) (hb : Below w.heap.size w w') : Sizes w' := h.below hb h.1
theorem Sizes.alloc {w : World} (h : Sizes w) (o : Obj) : Sizes (w.alloc o) := h.below ((Below.refl w.heap.size w).alloc (Nat.le_refl _) o) h.1
theorem Sizes.drew {w : World} (h : Sizes w) : Sizes w.drew := h

/-- Are k bytes from at on within n? -/
def inB (n at_ k : Int) : Bool := decide (0 ≤ at_ ∧ 0 ≤ k ∧ at_ ≤ n ∧ k ≤ n - at_)
theorem within_any (A : Option Addr) (n c : Nat) (at_ k : Int) (w : World) (hn : (n : Int) ≤ 9223372036854775807) (h1 : -9223372036854775808 ≤ k) (h2 : k ≤ 9223372036854775807) :
    Calls Tryz.prog 90 #[.slice A n c, .int .i64 at_, .int .i64 k] w fun e w' => e = .returned (.bool (inB n at_ k)) ∧ w = w' := by
  have key : ∀ b : Bool, (0 ≤ at_ ∧ 0 ≤ k ∧ at_ ≤ n ∧ k ≤ n - at_ ↔ b = true) → inB n at_ k = b := by
    intro b hb
    cases b <;> simp [inB] <;> simp at hb <;> omega
  by_cases a1 : 0 ≤ at_
  · by_cases a2 : 0 ≤ k
    · by_cases a3 : at_ ≤ n
      · by_cases a4 : k ≤ n - at_
        · rw [key true (by simp; omega)]
          go_enter Tryz.func90, Tryz.ntmps90
          go_wp2
          go_ret
          exact ⟨rfl, rfl⟩
        · rw [key false (by simp; omega)]
          go_enter Tryz.func90, Tryz.ntmps90
          go_wp2
          go_ret
          exact ⟨by simp, rfl⟩
      · rw [key false (by simp; omega)]
        go_enter Tryz.func90, Tryz.ntmps90
        go_wp2
        go_ret
        exact ⟨by simp, rfl⟩
    · rw [key false (by simp; omega)]
      go_enter Tryz.func90, Tryz.ntmps90
      go_wp2
      go_ret
      exact ⟨by simp, rfl⟩
  · rw [key false (by simp; omega)]
    go_enter Tryz.func90, Tryz.ntmps90
    go_wp2
    go_ret
    exact ⟨by simp, rfl⟩
/-- Which sizes a number may have. -/
def isSz (n : Int) : Bool := decide (n = 1 ∨ n = 2 ∨ n = 4 ∨ n = 8)
theorem isSize_any (n : Int) (w : World) (hs : Sizes w) :
    Calls Tryz.prog 91 #[.int .i64 n] w fun e w' => e = .returned (.bool (isSz n)) ∧ w = w' := by
  have c0 : w.cell? ⟨0, 0, none⟩ = some (.int .i64 1) := hs.2.cell g_sizes 0 (by decide)
  have c1 : w.cell? ⟨0, 1, none⟩ = some (.int .i64 2) := hs.2.cell g_sizes 1 (by decide)
  have c2 : w.cell? ⟨0, 2, none⟩ = some (.int .i64 4) := hs.2.cell g_sizes 2 (by decide)
  have c3 : w.cell? ⟨0, 3, none⟩ = some (.int .i64 8) := hs.2.cell g_sizes 3 (by decide)
  clear hs
  have i0 : ∀ w, (Instr.index 153 (.agg #[.int .i64 1, .int .i64 2, .int .i64 4, .int .i64 8]) (.int .i64 0)).run Tryz.prog w = .ok (.int .i64 1) w := fun _ => by kernel_rfl
  have i1 : ∀ w, (Instr.index 153 (.agg #[.int .i64 1, .int .i64 2, .int .i64 4, .int .i64 8]) (.int .i64 1)).run Tryz.prog w = .ok (.int .i64 2) w := fun _ => by kernel_rfl
  have i2 : ∀ w, (Instr.index 153 (.agg #[.int .i64 1, .int .i64 2, .int .i64 4, .int .i64 8]) (.int .i64 2)).run Tryz.prog w = .ok (.int .i64 4) w := fun _ => by kernel_rfl
  have i3 : ∀ w, (Instr.index 153 (.agg #[.int .i64 1, .int .i64 2, .int .i64 4, .int .i64 8]) (.int .i64 3)).run Tryz.prog w = .ok (.int .i64 8) w := fun _ => by kernel_rfl
  by_cases h1 : n = 1
  · subst h1
    rw [show isSz 1 = true from rfl]
    go_enter Tryz.func91, Tryz.ntmps91
    go_wp2
    refine wp_loop_rounds 5 ?_
    rw [rounds_succ]
    go_wp2
    go_ret
    exact ⟨rfl, rfl⟩
  by_cases h2 : n = 2
  · subst h2
    rw [show isSz 2 = true from rfl]
    go_enter Tryz.func91, Tryz.ntmps91
    go_wp2
    refine wp_loop_rounds 5 ?_
    iterate 2 (rw [rounds_succ]; go_wp2)
    go_ret
    exact ⟨rfl, rfl⟩
  by_cases h3 : n = 4
  · subst h3
    rw [show isSz 4 = true from rfl]
    go_enter Tryz.func91, Tryz.ntmps91
    go_wp2
    refine wp_loop_rounds 5 ?_
    iterate 3 (rw [rounds_succ]; go_wp2)
    go_ret
    exact ⟨rfl, rfl⟩
  by_cases h4 : n = 8
  · subst h4
    rw [show isSz 8 = true from rfl]
    go_enter Tryz.func91, Tryz.ntmps91
    go_wp2
    refine wp_loop_rounds 5 ?_
    iterate 4 (rw [rounds_succ]; go_wp2)
    go_ret
    exact ⟨rfl, rfl⟩
  · rw [show isSz n = false by simp [isSz]; omega]
    have e1 : ((1 : Int) == n) = false := by simp; omega
    have e2 : ((2 : Int) == n) = false := by simp; omega
    have e3 : ((4 : Int) == n) = false := by simp; omega
    have e4 : ((8 : Int) == n) = false := by simp; omega
    clear h1 h2 h3 h4
    go_enter Tryz.func91, Tryz.ntmps91
    go_wp2
    refine wp_loop_rounds 5 ?_
    iterate 5 (rw [rounds_succ]; go_wp2)
    go_ret
    exact ⟨rfl, rfl⟩

/-- A number's bytes, the lowest first. -/
def leN : List UInt8 → Nat
  | [] => 0
  | q :: r => q.toNat + 256 * leN r
theorem leN_snoc (l : List UInt8) (q : UInt8) : leN (l ++ [q]) = leN l + q.toNat * 256 ^ l.length := by
  induction l with
  | nil => simp [leN]
  | cons p r ih =>
    rw [List.cons_append, leN, ih, leN, List.length_cons, Nat.pow_succ, Nat.mul_add, Nat.mul_comm (256 ^ r.length) 256, Nat.mul_left_comm]
    omega
theorem leN_lt (l : List UInt8) : leN l < 256 ^ l.length := by
  induction l with
  | nil => simp [leN]
  | cons p r ih =>
    rw [leN, List.length_cons, Nat.pow_succ]
    have := p.toNat_lt
    omega
/-- What is at the places pl of a number of k bytes from at on. -/
def pick (bs : List UInt8) (at_ : Nat) (pl : Nat → Nat) (k : Nat) : List UInt8 := (List.range k).map fun i => bs.getD (at_ + pl i) 0
theorem pick_succ (bs : List UInt8) (at_ : Nat) (pl : Nat → Nat) (k : Nat) : pick bs at_ pl (k + 1) = pick bs at_ pl k ++ [bs.getD (at_ + pl k) 0] := by
  unfold pick
  rw [List.range_succ, List.map_append]; rfl
theorem pick_len (bs : List UInt8) (at_ : Nat) (pl : Nat → Nat) (k : Nat) : (pick bs at_ pl k).length = k := by simp [pick]
theorem or_step (x j : Nat) (q : UInt8) (hx : x < 256 ^ j) (hj : j < 8) :
    bits BinOp.or IntKind.u64 (x : Int) (IntKind.u64.wrap ((q.toNat : Int) * 2 ^ (8 * j))) = ((x + q.toNat * 256 ^ j : Nat) : Int) := by
  have hq := q.toNat_lt
  have hp : (2 : Nat) ^ (8 * j) = 256 ^ j := by rw [Nat.pow_mul]
  have hlt : q.toNat * 256 ^ j < 18446744073709551616 := by
    have h1 : 256 ^ j ≤ 256 ^ 7 := Nat.pow_le_pow_right (by decide) (by omega)
    have h2 : q.toNat * 256 ^ j ≤ 255 * 256 ^ 7 := Nat.mul_le_mul (by omega) h1
    have h3 : (255 : Nat) * 256 ^ 7 < 18446744073709551616 := by decide
    omega
  have hxl : x < 18446744073709551616 := by
    have h1 : 256 ^ j ≤ 256 ^ 7 := Nat.pow_le_pow_right (by decide) (by omega)
    have h3 : (256 : Nat) ^ 7 < 18446744073709551616 := by decide
    omega
  have hw : IntKind.u64.wrap ((q.toNat : Int) * 2 ^ (8 * j)) = ((q.toNat * 256 ^ j : Nat) : Int) := by
    rw [show ((q.toNat : Int) * 2 ^ (8 * j)) = ((q.toNat * 2 ^ (8 * j) : Nat) : Int) by simp, hp]
    generalize q.toNat * 256 ^ j = m at hlt
    rw [IntKind.wrap_u64]
    omega
  rw [hw, u64_or_nat _ _ hxl hlt, Nat.or_comm, nat_join (8 * j) _ _ (by rw [hp]; exact Nat.mul_mod_left _ _) (by rw [hp]; exact hx), Nat.add_comm]
set_option maxRecDepth 100000 in
theorem get_inner (fn : Nat) (caps : Array Value) (pl : Nat → Nat) (A : Option Addr) (n c : Nat) (bs : List UInt8) (a k : Nat) (w : World) (hR : RB w A n bs) (hs : Sizes w) (hn : n ≤ 9223372036854775807) (hk : isSz k = true) (hin : a + k ≤ n)
    (hpl : ∀ i, i < k → pl i < k) (hC : ∀ (args : Array Value) (w : World), (callFunc fn args).run Tryz.prog w = .ok (.enter fn args) w) (hF : Hid (∀ i, i < k → Calls Tryz.prog fn (#[.int .i64 (i : Nat)] ++ caps) w fun e w' => e = .returned (.int .i64 (pl i : Nat)) ∧ w = w')) :
    Calls Tryz.prog 74 #[.slice A n c, .int .i64 a, .int .i64 k, .func (Fn.func fn) #[] caps] w fun e w' => e = .returned (.tuple #[.int .u64 (leN (pick bs a pl k) : Nat), .int .i64 0]) ∧ w = w' := by
  have S := Lib.hid (isSize_any k w hs)
  have I := Lib.hid (within_any A n c a k w (by omega) (by omega) (by omega))
  have hi : inB n a k = true := by simp [inB]; omega
  rw [hk] at S
  rw [hi] at I
  have hk8 : k ≤ 8 := by simp [isSz] at hk; omega
  clear hi hk
  go_enter Tryz.func74, Tryz.ntmps74
  go_wp2_with fail
  refine S.out.mono ?_
  rintro e w' ⟨rfl, rfl⟩
  go_wp2_with fail
  refine I.out.mono ?_
  rintro e w' ⟨rfl, rfl⟩
  go_wp2
  go_loop [10, 23] (fun x i => ∃ j : Nat, j ≤ k ∧ i = .int .i64 j ∧ x = .int .u64 (leN (pick bs a pl j) : Nat)) (fun _ i => k - (intOf i).toNat)
  case atStart => exact ⟨0, Nat.zero_le _, rfl, rfl⟩
  case round =>
    obtain ⟨j, hj, rfl, rfl⟩ := hrel
    by_cases hlt : j < k
    · have hp := hpl j hlt
      obtain ⟨b, off, q, rfl, hblt, hq, hcell⟩ := hR.at_ (k := a + pl j) (by omega)
      have hqb : (q.toNat : Int) ≤ 255 := by have := q.toNat_lt; omega
      have HQ := Lib.hid hq
      clear hq
      go_wp2_with fail
      refine (hF.out j hlt).mono ?_
      rintro e w' ⟨rfl, rfl⟩
      go_wp2
      have hst := or_step (leN (pick bs a pl j)) j q (by have := leN_lt (pick bs a pl j); rwa [pick_len] at this) (by omega)
      have hsn : leN (pick bs a pl (j + 1)) = leN (pick bs a pl j) + q.toNat * 256 ^ j := by
        rw [pick_succ, leN_snoc, pick_len, List.getD_eq_getElem?_getD, HQ.out]; rfl
      go_round
      case rel => exact ⟨j + 1, by omega, by go_num, by rw [hst, hsn]⟩
      case measure => simp [intOf]; omega
    · obtain rfl : j = k := by omega
      go_wp2
      go_ret2
      exact ⟨rfl, rfl⟩
set_option maxRecDepth 100000 in
theorem get_no (F : Value) (A : Option Addr) (n c : Nat) (at_ k : Int) (w : World) (hs : Sizes w) (hn : n ≤ 9223372036854775807) (h1 : -9223372036854775808 ≤ k) (h2 : k ≤ 9223372036854775807) (hno : isSz k = false ∨ inB n at_ k = false) :
    Calls Tryz.prog 74 #[.slice A n c, .int .i64 at_, .int .i64 k, F] w fun e w' => e = .returned (.tuple #[.int .u64 0, .int .i64 1]) ∧ w = w' := by
  have S := Lib.hid (isSize_any k w hs)
  have I := Lib.hid (within_any A n c at_ k w (by omega) (by omega) (by omega))
  cases hz : isSz k
  · rw [hz] at S
    clear hno hz
    go_enter Tryz.func74, Tryz.ntmps74
    go_wp2_with fail
    refine S.out.mono ?_
    rintro e w' ⟨rfl, rfl⟩
    go_wp2
    go_ret2
    exact ⟨rfl, rfl⟩
  · have hi : inB n at_ k = false := by
      rcases hno with h | h
      · rw [h] at hz; cases hz
      · exact h
    rw [hz] at S
    rw [hi] at I
    clear hno hz hi
    go_enter Tryz.func74, Tryz.ntmps74
    go_wp2_with fail
    refine S.out.mono ?_
    rintro e w' ⟨rfl, rfl⟩
    go_wp2_with fail
    refine I.out.mono ?_
    rintro e w' ⟨rfl, rfl⟩
    go_wp2
    go_ret2
    exact ⟨rfl, rfl⟩
end Go.Proofs.YtcedojmhgmgcgaaGreatDoor
