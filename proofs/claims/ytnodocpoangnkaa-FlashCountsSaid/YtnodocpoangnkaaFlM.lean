/-
  flash: a list of things done, copied and made longer.
-/
import Derived.Test.YtnodocpoangnkaaFlK
import Derived.Test.YtnodocpoangnkaaRow
namespace Go.Proofs.Ytnodocpoangnkaa
open Go.RowKit Go
set_option linter.unusedVariables false
set_option linter.unusedSimpArgs false
set_option maxRecDepth 100000
theorem op_row : RowT 33 24 4 48 (.agg #[.int .i64 0, .int .i64 0, .int .i64 0, .slice none 0 0]) := ⟨Try.underlying33, by kernel_rfl, rfl, by decide⟩
theorem add_mid7 (b o j : Nat) : (⟨b, o, none⟩ : Addr).add j = ⟨b, o + j, none⟩ := by unfold Addr.add; split <;> simp_all
/-- The cells of the first n. -/
def opCells (os : Nat → FOp) : Nat → List Value
  | 0 => []
  | n + 1 => opCells os n ++ (os n).cells.toList
theorem opCells_len (os : Nat → FOp) : ∀ n, (opCells os n).length = n * 4
  | 0 => rfl
  | n + 1 => by unfold opCells; rw [List.length_append, opCells_len os n]; simp [FOp.cells]; omega
theorem opCells_at (os : Nat → FOp) : ∀ (n r j : Nat), r < n → j < 4 → (opCells os n)[r * 4 + j]? = (os r).cells.toList[j]?
  | 0, r, j, h, _ => absurd h (Nat.not_lt_zero _)
  | n + 1, r, j, h, hj => by
    unfold opCells
    rcases Nat.lt_or_ge r n with h1 | h1
    · rw [List.getElem?_append_left (by rw [opCells_len]; omega)]
      exact opCells_at os n r j h1 hj
    · obtain rfl : r = n := by omega
      rw [List.getElem?_append_right (by rw [opCells_len]; omega), opCells_len]
      congr 1
      omega
theorem opCells_one (os : Nat → FOp) : ∀ n, ∀ u ∈ opCells os n, u.oneCell' = true
  | 0, u, h => by simp [opCells] at h
  | n + 1, u, h => by
    unfold opCells at h
    rcases List.mem_append.1 h with h1 | h1
    · exact opCells_one os n u h1
    · simp [FOp.cells] at h1
      rcases h1 with rfl | rfl | rfl | rfl <;> rfl
theorem opCells_reads {w : World} {A : Option Addr} {n c : Nat} {os : Nat → FOp} (h : IsFOps w A n c os) (ad : Addr) (hA : A = some ad) : ∀ (j : Nat) (u : Value), (opCells os n)[j]? = some u → w.cell? (ad.add j) = some u := by
  intro j u hu
  have hj : j < n * 4 := by
    rcases Nat.lt_or_ge j (n * 4) with h1 | h1
    · exact h1
    · rw [List.getElem?_eq_none (by rw [opCells_len]; exact h1)] at hu; cases hu
  have e : j = j / 4 * 4 + j % 4 := by omega
  obtain ⟨b, off, e2, _, _, hc⟩ := h.rows (j / 4) (by omega)
  rw [hA] at e2
  injection e2 with e2
  subst e2
  rw [e, opCells_at os n (j / 4) (j % 4) (by omega) (by omega)] at hu
  have := hc (j % 4) u hu
  rw [e, add_mid7, ← Nat.add_assoc]
  exact this
section
variable {w : World} {ops : Array Oper} {rest : List Oper} {o : Oper} {a : Act} {Q : Exit → Act → World → Prop}
/-- 'append(.., ops...)' of a list that came in, nil too. -/
theorem wpList_appO (s x : Operand) (ho : o.op = .call { callee := .builtin .append, args := #[s, x], argTypes := #[33, 33] }) (hgd : o.guard = none) (hty : o.type = 33)
    (base : Nat) (A0 : Option Addr) (n0 c0 : Nat) (vs : List Value) (hs : a.eval s = .slice A0 n0 c0) (hown : OwnR w base 24 4 A0 n0 c0 vs)
    (A : Option Addr) (m c : Nat) (os : Nat → FOp) (hx : a.eval x = .slice A m c) (w0 : World) (hr : IsFOps w0 A m c os) (hb : Below w0.heap.size w0 w) (hlim : (n0 + m) * 48 ≤ 140737488355328) (hbase : base ≤ w.heap.size)
    (h : ∀ A' c' w', OwnR w' base 24 4 A' (n0 + m) c' (vs ++ opCells os m) → w.grownBy w' (blk A0) → wpList Try.prog ops Q rest (a.put o.dst (.slice A' (n0 + m) c')) w') : wpList Try.prog ops Q (o :: rest) a w := by
  cases A with
  | some ad =>
    refine wpList_appR op_row s x ho hgd hty base A0 n0 c0 vs hs hown ad m c (opCells os m) hx (opCells_len _ _) ?_ (opCells_one _ _) (by unfold maxLen; omega) hlim hbase h
    intro j u hu
    have h9 := opCells_reads hr ad rfl j u hu
    have hlt := World.block_lt_of_cell? w0 _ h9
    exact (hb.cell (p := ad.add j) hlt).trans h9
  | none =>
    obtain rfl : m = 0 := by
      rcases Nat.eq_zero_or_pos m with h1 | h1
      · exact h1
      · obtain ⟨b, off, e, _⟩ := hr.rows 0 h1
        cases e
    refine wpList_plain hgd fun K hK => ?_
    obtain ⟨i, hi, hz0, hz1, hz2⟩ := info_parts op_row.info
    have hrun : (Builtin.append_ #[33, 33] 33 #[.slice A0 n0 c0, .slice none 0 c]).run Try.prog w = .ok (.slice A0 n0 c0) w := by
      rcases hown.2 with ⟨hv, rfl⟩ | ⟨g, cap, cur, hv, _, _, hnc, _⟩
      · injection hv with h1 h2 h3
        subst h1; subst h3
        simp [Builtin.append_, run_underlying Try.underlying33, sizeOf, typeInfo, hi, Builtin.lenOf, Builtin.firstCells]
      · injection hv with h1 h2 h3
        subst h1; subst h3
        simp [Builtin.append_, run_underlying Try.underlying33, sizeOf, typeInfo, hi, Builtin.lenOf, Builtin.firstCells, hnc, storeCells]
    unfold Oper.wp execOp
    simp only [ho, resolve, invoke, builtin, Sem.run_bind, Sem.run_pure, Result.andThen_ok, List.map_toArray, List.map_cons, List.map_nil, hs, hx, hty, hrun]
    refine hK _ _ (h A0 c0 w ?_ (World.grownBy.refl w _))
    show OwnR w base 24 4 A0 (n0 + 0) c0 (vs ++ [])
    rw [List.append_nil]
    exact hown
end
/-- The list and one more. -/
def oneMore (os : Nat → FOp) (n : Nat) (x : FOp) : Nat → FOp := fun r => if r < n then os r else x
theorem opsc_more {w : World} {base : Nat} {A : Option Addr} {n c : Nat} {os : Nat → FOp} (x : FOp) (h : OwnR w base 24 4 A (n + 1) c (opCells os n ++ x.cells.toList)) : OpsC w A (n + 1) (oneMore os n x) := by
  have hh : opCells os n ++ x.cells.toList = opCells (oneMore os n x) (n + 1) := by
    have e1 : ∀ m, m ≤ n → opCells (oneMore os n x) m = opCells os m := by
      intro m
      induction m with
      | zero => intro _; rfl
      | succ m ih =>
        intro hm
        unfold opCells
        rw [ih (by omega), show oneMore os n x m = os m from if_pos (by omega)]
    conv => { rhs; unfold opCells }
    rw [e1 n (Nat.le_refl _), show oneMore os n x n = x from if_neg (Nat.lt_irrefl _)]
  intro r hr
  rw [hh] at h
  obtain ⟨b, off, e, _, hc⟩ := h.reads.at_ (j := r * 4 + 3) (u := .slice (oneMore os n x r).Xb (oneMore os n x r).nb (oneMore os n x r).cb) (by rw [opCells_at _ _ r 3 hr (by omega)]; rfl)
  exact ⟨b, off, e, by rw [Nat.add_assoc]; exact hc⟩
theorem IsFOps.below {w w' : World} {A : Option Addr} {n c : Nat} {os : Nat → FOp} (h : IsFOps w A n c os) (hb : Below w.heap.size w w') : IsFOps w' A n c os := by
  refine ⟨h.le, h.max, fun r hr => ?_⟩
  obtain ⟨b, off, e, hlt, ho, hc⟩ := h.rows r hr
  exact ⟨b, off, e, Nat.lt_of_lt_of_le hlt hb.size, ⟨ho.kd, ho.p, ho.m, ⟨ho.b.len, ho.b.le, ho.b.max, (ho.b.rb.below hb).2⟩⟩, fun j u hu => (hb.cell (p := ⟨b, off + r * 4 + j, none⟩) hlt).trans (hc j u hu)⟩
/-- Program with no loss of power ahead. -/
theorem progQ_calm (xs : List UInt8) : ∀ (k : Nat) (S : FS), S.left = 0 → (progQ xs k S).2 = 0 ∧ (progQ xs k S).1.left = 0 ∧ (progQ xs k S).1.off = S.off ∧ (progQ xs k S).1.wr = S.wr + xs.length := by
  induction xs with
  | nil => intro k S h; exact ⟨rfl, h, rfl, rfl⟩
  | cons x xs ih =>
    intro k S h
    have e : S.step k x = { S with left := S.left - 1, wr := S.wr + 1, bs := S.bs.set k (S.bs.getD k 0 &&& x) } := by unfold FS.step; rw [if_neg (by omega)]
    unfold progQ
    rw [if_neg (by omega)]
    obtain ⟨h1, h2, h3, h4⟩ := ih (k + 1) (S.step k x) (by rw [e]; show S.left - 1 = 0; omega)
    rw [e] at h1 h2 h3 h4 ⊢
    refine ⟨h1, h2, h3, ?_⟩
    rw [h4, List.length_cons]
    show S.wr + 1 + xs.length = _
    omega
/-- The loop's state: a power that goes ahead of the m-th write (0: never), W writes before. -/
def CS (m W i : Nat) (N s : Nat) (T : FS) : Prop := T.n = N ∧ T.s = s ∧
  ((m = 0 ∧ T.left = 0 ∧ T.off = false ∧ T.wr = W + i) ∨ (0 < m ∧ i < m ∧ T.left = m - i ∧ T.off = false ∧ T.wr = W + i) ∨ (0 < m ∧ m ≤ i ∧ T.left = 0 ∧ T.off = true ∧ T.wr = W + (m - 1)))
end Go.Proofs.Ytnodocpoangnkaa
