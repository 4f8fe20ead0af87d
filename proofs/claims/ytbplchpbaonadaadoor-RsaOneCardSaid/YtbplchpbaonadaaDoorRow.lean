/-
  Rows of elements of any type: what a call owns of them, appending to them, making them; what it reads of them.
-/
import Derived.Test.YtbplchpbaonadaaDoorOwn
namespace Go.Proofs.YtbplchpbaonadaaDoor
open Go.RowKit Go
set_option linter.unusedVariables false
set_option maxRecDepth 100000
/-- What the program says of a slice type s over an element type e of k cells. -/
structure RowT (s e : TypeId) (k bytes : Nat) (z : Value) : Prop where
  und : Tryd.prog.underlying s = some (.slice e)
  info : (Tryd.prog.info? e).map (fun i => (i.zero, i.size, i.bytes)) = some (some z, k, bytes)
  zs : z.cells.size = k
  pos : 0 < k
/-- The slice '.slice A n c' owns n elements, whose cells are vs. -/
def OwnR (w : World) (base : Nat) (e : TypeId) (k : Nat) (A : Option Addr) (n c : Nat) (vs : List Value) : Prop := w.ownsRow base e k (.slice A n c) n vs
/-- The cells from A on are vs. -/
def ReadR (w : World) (A : Option Addr) (vs : List Value) : Prop :=
  vs ≠ [] → ∃ b off, A = some ⟨b, off, none⟩ ∧ b < w.heap.size ∧ ∀ (j : Nat) (u : Value), vs[j]? = some u → w.cell? ⟨b, off + j, none⟩ = some u
section
variable {w w' : World} {A : Option Addr} {vs : List Value}
theorem ReadR.nil : ReadR w A [] := fun h => absurd rfl h
theorem ReadR.below (h : ReadR w A vs) {B : Nat} (hb : Below B w w') (hB : w.heap.size ≤ B) : ReadR w' A vs := fun hn => by
  obtain ⟨b, off, e, hlt, hc⟩ := h hn
  exact ⟨b, off, e, Nat.lt_of_lt_of_le hlt hb.size, fun j u hu => (hb.cell (p := ⟨b, off + j, none⟩) (show b < B by omega)).trans (hc j u hu)⟩
theorem ReadR.alloc (h : ReadR w A vs) (o : Obj) : ReadR (w.alloc o) A vs := h.below ((Below.refl _ _).alloc (Nat.le_refl _) o) (Nat.le_refl _)
theorem ReadR.drew (h : ReadR w A vs) : ReadR w.drew A vs := h
theorem ReadR.drewN (h : ReadR w A vs) (k : Nat) : ReadR (w.drewN k) A vs := h
theorem ReadR.at_ (h : ReadR w A vs) {j : Nat} {u : Value} (hu : vs[j]? = some u) : ∃ b off, A = some ⟨b, off, none⟩ ∧ b < w.heap.size ∧ w.cell? ⟨b, off + j, none⟩ = some u := by
  obtain ⟨b, off, e, hlt, hc⟩ := h (by rintro rfl; simp at hu)
  exact ⟨b, off, e, hlt, hc j u hu⟩
theorem ReadR.drop_ (h : ReadR w A vs) (k : Nat) : ReadR w (A.map (·.add k)) (vs.drop k) := fun hn => by
  obtain ⟨b, off, e, hb, hc⟩ := h (by rintro rfl; simp at hn)
  subst e
  refine ⟨b, off + k, by by_cases hz : k = 0 <;> simp [Addr.add, hz], hb, fun j u hu => ?_⟩
  rw [Nat.add_assoc]
  rw [List.getElem?_drop] at hu
  exact hc (k + j) u hu
end
section
variable {w w' : World} {base : Nat} {e : TypeId} {k : Nat} {A : Option Addr} {n c : Nat} {vs : List Value}
theorem OwnR.nil (w : World) (base : Nat) (e : TypeId) (k : Nat) : OwnR w base e k none 0 0 [] := World.ownsRow_nil w base _ _
theorem OwnR.len (h : OwnR w base e k A n c vs) : vs.length = n * k := h.1
theorem OwnR.alloc (h : OwnR w base e k A n c vs) (o : Obj) : OwnR (w.alloc o) base e k A n c vs := World.ownsRow.alloc h o
theorem OwnR.drew (h : OwnR w base e k A n c vs) : OwnR w.drew base e k A n c vs := h
theorem OwnR.drewN (h : OwnR w base e k A n c vs) (m : Nat) : OwnR (w.drewN m) base e k A n c vs := h
theorem OwnR.blk_lt (h : OwnR w base e k A n c vs) {g : Nat} (hg : blk A = some g) : base ≤ g ∧ g < w.heap.size := World.ownsRow.lt h g (by rw [blk_own]; exact hg)
theorem OwnR.kept (h : OwnR w base e k A n c vs) {row : Option Nat} (hg : w.grownBy w' row) (hne : blk A = none ∨ blk A ≠ row) : OwnR w' base e k A n c vs := World.ownsRow.kept h hg (by rw [blk_own]; exact hne)
theorem OwnR.below (h : OwnR w base e k A n c vs) {B : Nat} (hb : Below B w w') (hB : w.heap.size ≤ B) : OwnR w' base e k A n c vs :=
  h.kept (grown_of_below hb hB none) (by cases blk A <;> simp)
theorem OwnR.lower (h : OwnR w base e k A n c vs) {base' : Nat} (hb : base' ≤ base) : OwnR w base' e k A n c vs :=
  ⟨h.1, h.2.imp id fun ⟨g, cap, cur, h1, h2, h3⟩ => ⟨g, cap, cur, h1, Nat.le_trans hb h2, h3⟩⟩
theorem OwnR.cap (h : OwnR w base e k A n c vs) : n ≤ c ∧ c ≤ maxLen := by
  rcases h.2 with ⟨hv, hn⟩ | ⟨g, cap, cur, hv, _, _, hle, hm, _⟩
  · injection hv with _ _ h3; subst h3; subst hn; exact ⟨Nat.le_refl _, Nat.zero_le _⟩
  · injection hv with _ _ h3; subst h3; exact ⟨hle, hm⟩
theorem OwnR.kind (h : OwnR w base e k A n c vs) : ∀ g, blk A = some g → ∃ cur, w.heap[g]? = some (.cells cur e (0, 0)) := by
  intro g hg
  rcases h.2 with ⟨hv, _⟩ | ⟨g', cap, cur, hv, _, hh, _⟩
  · injection hv with h1; subst h1; cases hg
  · injection hv with h1; subst h1
    injection hg with hg
    subst hg
    exact ⟨cur, hh⟩
theorem OwnR.shape (h : OwnR w base e k A n c vs) (hn : 0 < c) : ∃ g, A = some ⟨g, 0, none⟩ ∧ base ≤ g ∧ g < w.heap.size := by
  rcases h.2 with ⟨hv, _⟩ | ⟨g, cap, cur, hv, hb, hh, _⟩
  · injection hv with _ _ h3; omega
  · injection hv with h1 _ _
    exact ⟨g, h1, hb, (Array.getElem?_eq_some_iff.1 hh).1⟩
theorem OwnR.reads (h : OwnR w base e k A n c vs) : ReadR w A vs := by
  intro hn
  rcases h.2 with ⟨_, h0⟩ | ⟨g, cap, cur, hv, hb, hh, _⟩
  · have := h.1
    subst h0
    rw [Nat.zero_mul] at this
    exact absurd (List.eq_nil_of_length_eq_zero this) hn
  · injection hv with h1 _ _
    subst h1
    refine ⟨g, 0, rfl, (Array.getElem?_eq_some_iff.1 hh).1, fun j u hu => ?_⟩
    have hj : j < n * k := by
      rw [← h.1]
      rcases Nat.lt_or_ge j vs.length with h1 | h1
      · exact h1
      · rw [List.getElem?_eq_none h1] at hu; cases hu
    rw [Nat.zero_add, World.ownsRow.cellAt (g := g) h j hj, hu]
theorem OwnR.free {g : Nat} (h : OwnR w base e k (some ⟨g, 0, none⟩) n c vs) (j : Nat) : w.frozen? ⟨g, j, none⟩ = false := World.ownsRow.frozenAt h j
theorem OwnR.stored {g : Nat} (h : OwnR w base e k (some ⟨g, 0, none⟩) n c vs) (j : Nat) (u : Value) : OwnR (w.setCell ⟨g, j, none⟩ u) base e k (some ⟨g, 0, none⟩) n c (vs.set j u) := (World.ownsRow.stored h j u).1
theorem OwnR.lit (w : World) (e : TypeId) (k : Nat) (cs : Array Value) (n : Nat) (hm : n ≤ maxLen) (hs : cs.size = n * k) : OwnR (w.alloc (.cells cs e)) w.heap.size e k (some ⟨w.heap.size, 0, none⟩) n n cs.toList :=
  World.ownsRow_lit w cs n (Nat.le_refl _) hm hs
/-- Two rows of unlike element types never share a block. -/
theorem OwnR.ne {A' : Option Addr} {base' e' k' n' c' : Nat} {vs' : List Value} (h : OwnR w base e k A n c vs) (h' : OwnR w base' e' k' A' n' c' vs') (hne : e ≠ e') : blk A = none ∨ blk A ≠ blk A' := by
  cases hV : blk A with
  | none => exact .inl rfl
  | some g =>
    right
    intro hh
    obtain ⟨cur, h1⟩ := h.kind g hV
    obtain ⟨cur', h2⟩ := h'.kind g hh.symm
    rw [h1] at h2
    injection h2 with h2
    injection h2 with _ h3
    exact hne h3
theorem OwnB.row {bs : List UInt8} (h : OwnB w base A n c bs) : OwnR w base 5 1 A n c (bs.map bv) := h
end
/-- The cells of a block that was just laid. -/
theorem cells_lit (w : World) (g : Nat) (cs : Array Value) (t : TypeId) (mk : Nat × Nat) (h : w.heap[g]? = some (.cells cs t mk)) : ∀ (j : Nat) (u : Value), cs.toList[j]? = some u → w.cell? ((⟨g, 0, none⟩ : Addr).add j) = some u := by
  intro j u hu
  have hadd : (⟨g, 0, none⟩ : Addr).add j = ⟨g, j, none⟩ := by unfold Addr.add; split <;> simp_all
  rw [hadd, cell_of_row _ g j cs t _ h, ← Array.getElem?_toList, hu]
section
variable {w : World} {ops : Array Oper} {rest : List Oper} {o : Oper} {a : Act} {Q : Exit → Act → World → Prop}
theorem wpList_appR {s e k bytes : Nat} {z : Value} (T : RowT s e k bytes z) (sOp xOp : Operand) (ho : o.op = .call { callee := .builtin .append, args := #[sOp, xOp], argTypes := #[s, s] }) (hgd : o.guard = none) (hty : o.type = s)
    (base : Nat) (V : Option Addr) (m c0 : Nat) (vs : List Value) (hs : a.eval sOp = .slice V m c0) (hown : OwnR w base e k V m c0 vs)
    (ad : Addr) (nn c : Nat) (news : List Value) (hx : a.eval xOp = .slice (some ad) nn c) (hl : news.length = nn * k) (hnews : ∀ (j : Nat) (u : Value), news[j]? = some u → w.cell? (ad.add j) = some u) (h1 : ∀ u ∈ news, u.oneCell' = true)
    (hlim : m + nn ≤ maxLen) (hbytes : (m + nn) * bytes ≤ 140737488355328) (hbase : base ≤ w.heap.size)
    (h : ∀ V' c' w', OwnR w' base e k V' (m + nn) c' (vs ++ news) → w.grownBy w' (blk V) → wpList Tryd.prog ops Q rest (a.put o.dst (.slice V' (m + nn) c')) w') : wpList Tryd.prog ops Q (o :: rest) a w := by
  refine wpList_plain hgd fun K hK => ?_
  obtain ⟨i, hi, hz0, hz1, hz2⟩ := info_parts T.info
  obtain ⟨v', w', hrun, h2, h3, _⟩ := run_append_own (P := Tryd.prog) w base s s e i z k bytes T.und hi hz0 hz1 hz2 T.zs T.pos (.slice V m c0) m vs hown ad nn c news hl hnews h1 hlim hbytes hbase
  rw [blk_own] at h3
  have hsh : ∃ V' c', v' = .slice V' (m + nn) c' := by
    rcases h2.2 with ⟨rfl, hn⟩ | ⟨g, cap, cur, rfl, _⟩
    · exact ⟨none, 0, by rw [hn]⟩
    · exact ⟨_, _, rfl⟩
  obtain ⟨V', c', rfl⟩ := hsh
  unfold Oper.wp execOp
  simp only [ho, resolve, invoke, builtin, Sem.run_bind, Sem.run_pure, Result.andThen_ok, List.map_toArray, List.map_cons, List.map_nil, hs, hx, hty, hrun]
  exact hK _ _ (h V' c' w' h2 h3)
/-- Appending a list that was just built. -/
theorem wpList_appL {s e k bytes : Nat} {z : Value} (T : RowT s e k bytes z) (sOp xOp : Operand) (ho : o.op = .call { callee := .builtin .append, args := #[sOp, xOp], argTypes := #[s, s] }) (hgd : o.guard = none) (hty : o.type = s)
    (base : Nat) (V : Option Addr) (m c0 : Nat) (vs : List Value) (hs : a.eval sOp = .slice V m c0) (hown : OwnR w base e k V m c0 vs)
    (g nn c : Nat) (cs : Array Value) (mk : Nat × Nat) (hx : a.eval xOp = .slice (some ⟨g, 0, none⟩) nn c) (hg : w.heap[g]? = some (.cells cs e mk)) (hl : cs.size = nn * k) (h1 : ∀ u ∈ cs.toList, u.oneCell' = true)
    (hlim : m + nn ≤ maxLen) (hbytes : (m + nn) * bytes ≤ 140737488355328) (hbase : base ≤ w.heap.size)
    (h : ∀ V' c' w', OwnR w' base e k V' (m + nn) c' (vs ++ cs.toList) → w.grownBy w' (blk V) → wpList Tryd.prog ops Q rest (a.put o.dst (.slice V' (m + nn) c')) w') : wpList Tryd.prog ops Q (o :: rest) a w :=
  wpList_appR T sOp xOp ho hgd hty base V m c0 vs hs hown ⟨g, 0, none⟩ nn c cs.toList hx (by simpa using hl) (cells_lit w g cs e mk hg) h1 hlim hbytes hbase h
/-- 'make([]T, n)'. -/
theorem wpList_mkR {s e k bytes : Nat} {z : Value} (T : RowT s e k bytes z) (l c : Operand) (ho : o.op = .makeSlice s l c) (hgd : o.guard = none) (kl kc : IntKind) (L C : Int) (n : Nat) (hl : a.eval l = .int kl L) (hc : a.eval c = .int kc C) (hL : L = (n : Int)) (hC : C = (n : Int)) (hlim : n ≤ maxLen) (hbytes : bytes * n ≤ 281474976710656)
    (h : ∀ w', OwnR w' w.heap.size e k (some ⟨w.heap.size, 0, none⟩) n n (madeCells z.cells (n * k)).toList → w.grownBy w' none → wpList Tryd.prog ops Q rest (a.put o.dst (.slice (some ⟨w.heap.size, 0, none⟩) n n)) w') : wpList Tryd.prog ops Q (o :: rest) a w := by
  obtain ⟨i, hi, hz0, hz1, hz2⟩ := info_parts T.info
  exact wpList_make_full w hgd l c s ho w.heap.size e i z k T.und hi hz0 hz1 kl kc L C n hl hc hL hC (by rw [hz2]; omega) hlim (Nat.le_refl _) fun w' h1 h2 => h w' h1 h2
end
end Go.Proofs.YtbplchpbaonadaaDoor
