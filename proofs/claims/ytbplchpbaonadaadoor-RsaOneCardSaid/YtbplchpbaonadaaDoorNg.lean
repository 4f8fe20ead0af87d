/-
  nat: Add.
-/
import Derived.Test.YtbplchpbaonadaaDoorNf
import Derived.Deep.QuietTactic
import Derived.BigQuiet
import Derived.BigRegion
namespace Go.Proofs.YtbplchpbaonadaaDoor
open Go.RowKit Go
set_option linter.unusedVariables false
set_option linter.unusedSimpArgs false
set_option maxRecDepth 100000
/-- A number of the call's own and an error. -/
def NumR (w : World) (r : List Nat × Nat) (e : Ending) (w' : World) : Prop :=
  ∃ A n c, e = .returned (.tuple #[.slice A n c, .int .i64 (r.2 : Int)]) ∧ NumS w' w.heap.size A n r.1 ∧ n ≤ c ∧ c ≤ 1000000 ∧ n ≤ 256 ∧ Below w.heap.size w w'
def fitQ (v : Nat) : List Nat × Nat := if v < 4294967296 ^ 256 then (num v, 0) else ([], 10)
def addQ (x y : List Nat) : List Nat × Nat := if rightB x && rightB y then fitQ (val x + val y) else ([], 1)
theorem NumR.of_fit {v : Nat} {w w1 w' : World} {e : Ending} (h : FitPost v w1 w.heap.size e w') (hb : Below w.heap.size w w') : NumR w (fitQ v) e w' := by
  unfold fitQ
  rcases h with ⟨h1, g, L, he, hg, hB, hL, ht, hn⟩ | ⟨h1, he⟩
  · rw [if_pos h1]
    have hm : (num v).length ≤ L.length := by
      have := congrArg List.length ht
      rw [List.length_take] at this
      omega
    exact ⟨_, _, _, he, NumS.of hB hg hL hm ht, Nat.le_refl _, by omega, hn, hb⟩
  · rw [if_neg h1]
    exact ⟨_, _, _, he, NumS.nil _ _, Nat.le_refl _, by omega, by omega, hb⟩
theorem NumR.err {w w' : World} {k : Nat} {e : Ending} (he : e = .returned (.tuple #[.slice none 0 0, .int .i64 (k : Int)])) (hb : Below w.heap.size w w') : NumR w ([], k) e w' :=
  ⟨_, _, _, he, NumS.nil _ _, Nat.le_refl _, by omega, by omega, hb⟩
theorem take_all {l : List Nat} {n : Nat} (h : l.length ≤ n) : l.take n = l := List.take_of_length_le h
theorem carry_out (V X Y c N : Nat) (hX : X < 4294967296 ^ N) (hY : Y < 4294967296 ^ N) (h : V + c * 4294967296 ^ (N + 1) = X + Y) : V = X + Y := by
  rcases Nat.lt_or_ge 0 c with h1 | h1
  · exfalso
    have h2 : 1 * 4294967296 ^ (N + 1) ≤ c * 4294967296 ^ (N + 1) := Nat.mul_le_mul_right _ h1
    rw [Nat.pow_succ] at *
    generalize 4294967296 ^ N = T at *
    omega
  · have : c = 0 := by omega
    subst this
    omega
theorem grown_kp {v w w' : World} (h : Below v.heap.size v w) (hg : w.grownBy w' none) : Below v.heap.size v w' := h.grown hg h.size (fun k hk => by cases hk)
section
variable {w : World} {ops : Array Oper} {rest : List Oper} {o : Oper} {a : Act} {Q : Exit → Act → World → Prop}
/-- 'make([]uint32, n)'. -/
theorem wpList_mkU (l c : Operand) (ho : o.op = .makeSlice 49 l c) (hgd : o.guard = none) (kl kc : IntKind) (L C : Int) (n : Nat) (hl : a.eval l = .int kl L) (hc : a.eval c = .int kc C) (hL : L = (n : Int)) (hC : C = (n : Int)) (hlim : n ≤ 1000000)
    (h : ∀ w', BlkU w' w.heap.size (List.replicate n 0) → Below w.heap.size w w' → wpList Tryd.prog ops Q rest (a.put o.dst (.slice (some ⟨w.heap.size, 0, none⟩) n n)) w') : wpList Tryd.prog ops Q (o :: rest) a w := by
  refine wpList_mkR u32_row l c ho hgd kl kc L C n hl hc hL hC (by unfold maxLen; omega) (by omega) ?_
  intro w' h1 h2
  rw [made_u32] at h1
  exact h w' (BlkU.of_own h1).1 (grown_kp (Below.refl _ _) h2)
end
end Go.Proofs.YtbplchpbaonadaaDoor
