/-
  Appending as a step of a region that draws its order.
-/
import Derived.Test.YtbplchpbaonadaaDoorRow
import Derived.Deep.AppendLies
import Derived.Deep.RegionHeldLaw
namespace Go.Proofs.YtbplchpbaonadaaDoor
open Go.RowKit Go
set_option linter.unusedVariables false
theorem step_appR {s e k bytes : _} {z : Value} (T : RowT s e k bytes z) {w : World} {ops : Array Oper} {o : Oper} {a : Act} {K : Act → World → Prop} {Q : Exit → Act → World → Prop} {E : Prop} (hgd : o.guard = none) (sOp xOp : Operand)
    (ho : o.op = .call { callee := .builtin .append, args := #[sOp, xOp], argTypes := #[s, s] })
    (base : Nat) (V : Option Addr) (m c0 : Nat) (vs : List Value) (hs : a.eval sOp = .slice V m c0) (hown : OwnR w base e k V m c0 vs)
    (ad : Addr) (nn c : Nat) (news : List Value) (hx : a.eval xOp = .slice (some ad) nn c) (hl : news.length = nn * k) (hnews : ∀ (j : Nat) (u : Value), news[j]? = some u → w.cell? (ad.add j) = some u) (h1 : ∀ u ∈ news, u.oneCell' = true)
    (hm : 0 < nn) (hlim : m + nn ≤ maxLen) (hbytes : (m + nn) * bytes ≤ 140737488355328) (hbase : base ≤ w.heap.size)
    (h : ∀ g c' w', OwnR w' base e k (some ⟨g, 0, none⟩) (m + nn) c' (vs ++ news) → w.grownBy w' (blk V) → (blk V = some g ∨ g = w.heap.size) → K (a.put o.dst (.slice (some ⟨g, 0, none⟩) (m + nn) c')) w') :
    if Region.wanted o (yielded ops a.tmps) = true then Oper.wp Tryd.prog o a w K Q else E := by
  obtain ⟨i, hi, hz0, hz1, hz2⟩ := info_parts T.info
  refine step_append_lies w hgd sOp xOp s ho base e i z k bytes T.und hi hz0 hz1 hz2 T.zs T.pos (.slice V m c0) m vs hs hown ad nn c news hx hl hnews h1 hm hlim hbytes hbase w.heap.size rfl fun g cap w' h2 h3 h4 _ => h g cap w' h2 ?_ ?_
  · rw [blk_own] at h3; exact h3
  · rw [blk_own] at h4; exact h4
end Go.Proofs.YtbplchpbaonadaaDoor
