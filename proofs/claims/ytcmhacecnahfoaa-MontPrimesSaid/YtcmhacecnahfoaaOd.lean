/-
  nat: the document's own: at, add, sub, cmp; Add, Sub, Cmp.
-/
import Derived.Test.YtcmhacecnahfoaaOb
namespace Go.Proofs.Ytcmhacecnahfoaa
open Go.RowKit Go
set_option linter.unusedVariables false
set_option linter.unusedSimpArgs false
set_option maxRecDepth 100000
theorem and_mask (s : Nat) (h : s < 18446744073709551616) : bits .and .u64 (s : Int) 4294967295 = ((s % 4294967296 : Nat) : Int) := by
  have h1 := u64_and_nat s 4294967295 h (by decide)
  rw [show (4294967295 : Nat) = 2 ^ 32 - 1 by decide, Nat.and_two_pow_sub_one_eq_mod] at h1
  exact h1
theorem dat_any (A : Option Addr) (n c i : Nat) (l : List Nat) (w : World) (h : RU w A n l) (hn : n ≤ 1000000) (hi : i ≤ 1000000) :
    Calls Try.prog 59 #[.slice A n c, .int .i64 (i : Int)] w fun e w' => e = .returned (.int .u64 ((l.getD i 0 : Nat) : Int)) ∧ w = w' := by
  by_cases hlt : i < n
  · obtain ⟨b, off, rfl, hb, hc⟩ := h.at_ hlt
    have hx32 := h.lim.getD i
    obtain ⟨x, hx⟩ : ∃ x, l.getD i 0 = x := ⟨_, rfl⟩
    rw [hx] at hc hx32 ⊢
    have i1 : (i : Int) < (n : Int) := by omega
    have i2 : (0 : Int) ≤ (i : Int) := by omega
    clear hx h
    go_enter Try.func59, Try.ntmps59
    go_wp2
    go_ret
    exact ⟨rfl, rfl⟩
  · have hz : l.getD i 0 = 0 := by
      rw [List.getD_eq_getElem?_getD, List.getElem?_eq_none (by rw [h.len]; omega)]; rfl
    rw [hz]
    have i1 : ¬ (i : Int) < (n : Int) := by omega
    clear hz h
    go_enter Try.func59, Try.ntmps59
    go_wp2
    go_ret
    exact ⟨rfl, rfl⟩
theorem val_snoc (L : List Nat) (r : Nat) : val (L ++ [r]) = val L + r * 4294967296 ^ L.length := by
  rw [val_append, val, val, Nat.mul_zero, Nat.add_zero, Nat.mul_comm]
theorem lim_snoc {L : List Nat} (h : Lim L) {r : Nat} (hr : r < 4294967296) : Lim (L ++ [r]) := h.append (Lim.cons hr Lim.nil)
/-- The limbs that a call owns, appended one after another. -/
def OU (w : World) (base : Nat) (A : Option Addr) (n c : Nat) (L : List Nat) : Prop := OwnR w base 31 1 A n c (L.map v32)
theorem OU.below {w w' : World} {base n c : Nat} {A : Option Addr} {L : List Nat} (h : OU w base A n c L) (hb : Below w.heap.size w w') : OU w' base A n c L := OwnR.below h hb (Nat.le_refl _)
theorem OU.alloc {w : World} {base n c : Nat} {A : Option Addr} {L : List Nat} (h : OU w base A n c L) (o : Obj) : OU (w.alloc o) base A n c L := OwnR.alloc h o
section
variable {w : World} {ops : Array Oper} {rest : List Oper} {o : Oper} {a : Act} {Q : Exit → Act → World → Prop}
/-- One limb more. -/
theorem wpList_app1 (s x : Operand) (ho : o.op = .call { callee := .builtin .append, args := #[s, x], argTypes := #[22, 22] }) (hgd : o.guard = none) (hty : o.type = 22)
    (base : Nat) (A0 : Option Addr) (n0 c0 : Nat) (L : List Nat) (hs : a.eval s = .slice A0 n0 c0) (hown : OU w base A0 n0 c0 L) (g c r : Nat) (hx : a.eval x = .slice (some ⟨g, 0, none⟩) 1 c) (hg : BlkU w g [r]) (hr : r < 4294967296) (hlim : n0 + 1 ≤ 1000000) (hbase : base ≤ w.heap.size)
    (v : World) (hv : Below v.heap.size v w) (hvb : v.heap.size ≤ base)
    (h : ∀ A' c' w', OU w' base A' (n0 + 1) c' (L ++ [r]) → Below v.heap.size v w' → wpList Try.prog ops Q rest (a.put o.dst (.slice A' (n0 + 1) c')) w') : wpList Try.prog ops Q (o :: rest) a w :=
  wpList_appU s x ho hgd hty base A0 n0 c0 L hs hown (some ⟨g, 0, none⟩) 1 c [r] hx (hg.ru (Lim.cons hr Lim.nil) 0 1 (by simp)) hlim hbase
    fun A' c' w' h1 h2 => h A' c' w' h1 (hv.grown h2 hv.size (fun k hk => Nat.le_trans hvb (OwnR.blk_lt hown hk).1))
end
theorem sub_limb (a p b l o : Nat) (ha : a < 4294967296) (hp : p < 4294967296) (hb : b ≤ 1) (hl : l < 4294967296) (ho : o ≤ 1) (h : l + p + b = a + o * 4294967296) : a + 4294967296 - p - b = l + (1 - o) * 4294967296 ∧ (a + 4294967296 - p - b) % 4294967296 = l ∧ (a + 4294967296 - p - b) / 4294967296 = 1 - o := by
  rcases Nat.lt_or_ge 0 o with h1 | h1
  · have : o = 1 := by omega
    subst this
    omega
  · have : o = 0 := by omega
    subst this
    omega
end Go.Proofs.Ytcmhacecnahfoaa
