/-
  copy into bytes that the call owns.
-/
import Derived.Test.YtcedojmhgmgcgaaGreatDoorOwn
import Derived.Laws.CopyOwn
namespace Go.Proofs.YtcedojmhgmgcgaaGreatDoor
open Go.RowKit Go
set_option linter.unusedVariables false
set_option maxRecDepth 100000
theorem splice_get {α : Type} (L : List α) (off : Nat) (cs : List α) (h : off + cs.length ≤ L.length) (i : Nat) :
    (splice L off cs)[i]? = if off ≤ i ∧ i < off + cs.length then cs[i - off]? else L[i]? := by
  unfold splice
  have hl : (L.take off).length = off := by rw [List.length_take]; omega
  by_cases h1 : i < off
  · rw [List.getElem?_append_left (by omega), List.getElem?_take, if_pos h1, if_neg (by omega)]
  · rw [List.getElem?_append_right (by omega), hl]
    by_cases h2 : i < off + cs.length
    · rw [List.getElem?_append_left (by omega), if_pos ⟨by omega, h2⟩]
    · rw [List.getElem?_append_right (by omega), List.getElem?_drop, if_neg (by omega)]
      congr 1; omega
theorem splice_take {α : Type} (L : List α) (off n : Nat) (cs : List α) (h : off + cs.length ≤ n) (hn : n ≤ L.length) : (splice L off cs).take n = splice (L.take n) off cs := by
  apply List.ext_getElem?
  intro i
  rw [splice_get _ _ _ (by rw [List.length_take]; omega), List.getElem?_take, splice_get _ _ _ (by omega), List.getElem?_take]
  by_cases hi : i < n
  · simp [hi]
  · rw [if_neg hi, if_neg (by omega), if_neg hi]
theorem splice_map {α β : Type} (f : α → β) (L : List α) (off : Nat) (cs : List α) : (splice L off cs).map f = splice (L.map f) off (cs.map f) := by
  unfold splice
  simp [List.map_take, List.map_drop]
theorem splice_zero {α : Type} (L cs : List α) (h : cs.length = L.length) : splice L 0 cs = cs := by
  unfold splice
  simp [h]
theorem splice_nil {α : Type} (L : List α) (off : Nat) : splice L off [] = L := by
  unfold splice
  simp
section
variable {w : World} {ops : Array Oper} {rest : List Oper} {o : Oper} {a : Act} {Q : Exit → Act → World → Prop}
theorem wpList_cpy (d s : Operand) (ho : o.op = .call { callee := .builtin .copy, args := #[d, s], argTypes := #[22, 22] }) (hgd : o.guard = none)
    (base g off n0 c0 dl dc : Nat) (xs : List UInt8) (hd : a.eval d = .slice (some ⟨g, off, none⟩) dl dc) (hown : OwnB w base (some ⟨g, 0, none⟩) n0 c0 xs)
    (B : Nat) (A : Option Addr) (m c : Nat) (ys : List UInt8) (hs : a.eval s = .slice A m c) (hl : ys.length = m) (hr : Bs w B A ys) (hfit : off + min m dl ≤ n0)
    (h : ∀ w', OwnB w' base (some ⟨g, 0, none⟩) n0 c0 (splice xs off (ys.take dl)) → w.grownBy w' (some g) → wpList Tryz.prog ops Q rest (a.put o.dst (goInt ((min m dl : Nat) : Int))) w') : wpList Tryz.prog ops Q (o :: rest) a w := by
  have hsz : (Tryz.prog.info? 5).map (·.size) = some 1 := by kernel_rfl
  by_cases h0 : min m dl = 0
  · refine wpList_copy_nothing hgd d s _ _ ho 5 Tryz.underlying22 hsz _ _ _ _ _ _ hd hs h0 ?_
    have hy : ys.take dl = [] := List.eq_nil_of_length_eq_zero (by rw [List.length_take]; omega)
    rw [h0] at h
    refine h w ?_ (World.grownBy.refl w _)
    rw [hy, splice_nil]
    exact hown
  · obtain ⟨b, o', e, _, hc⟩ := hr (by intro e; rw [e] at hl; simp at hl; omega)
    subst e
    rcases hown.2 with ⟨hv, _⟩ | ⟨g', cap, cur, hv, hb, hh, hle, hm, hcs, htk⟩
    · simp at hv
    · simp only [Value.slice.injEq, Option.some.injEq, Addr.mk.injEq, and_true, true_and] at hv
      obtain ⟨rfl, rfl⟩ := hv
      simp only [Nat.mul_one] at hcs htk
      have hlen : ((ys.take dl).map bv).length = min m dl := by rw [List.length_map, List.length_take]; omega
      refine wpList_copy_own hgd d s _ _ ho 5 Tryz.underlying22 hsz g off dl dc ⟨b, o', none⟩ m c hd hs cur _ hh ((ys.take dl).map bv) hlen (fun j v hj => ?_) (by rw [hlen, hcs]; omega) (by intro u hu; obtain ⟨q, _, rfl⟩ := List.mem_map.1 hu; rfl) ?_
      · rw [List.getElem?_map] at hj
        have hjl : j < (ys.take dl).length := by
          rcases Nat.lt_or_ge j (ys.take dl).length with h1 | h1
          · exact h1
          · rw [List.getElem?_eq_none h1] at hj; cases hj
        rw [List.getElem?_eq_getElem hjl] at hj
        injection hj with hj
        have hadd : (⟨b, o', none⟩ : Addr).add j = ⟨b, o' + j, none⟩ := by unfold Addr.add; split <;> simp_all
        rw [List.length_take] at hjl
        rw [hadd, hc j (by omega), ← hj, List.getElem_take]
      · rw [hlen]
        refine h _ ⟨?_, .inr ⟨g, c0, _, rfl, hb, setRow_heap w g cur _ _ _ hh, hle, hm, ?_, ?_⟩⟩ ⟨rfl, rfl, rfl, by simp [World.setRow], fun k _ hk => setRow_other w g k _ (fun e => hk (by rw [e]))⟩
        · rw [List.length_map, length_splice _ _ _ (by rw [List.length_take, hown.len]; omega), hown.len, Nat.mul_one]
        · have h2 : cur.toList.length = c0 := by simpa using hcs
          simp only [List.size_toArray, List.length_append, List.length_take, List.length_drop, h2, hlen]
          omega
        · rw [Nat.mul_one, splice_map, ← htk]
          have h2 : cur.toList.length = c0 := by simpa using hcs
          have h3 := splice_take cur.toList off n0 ((ys.take dl).map bv) (by rw [hlen]; omega) (by omega)
          rw [← h3]
          unfold splice
          rw [hlen]
end
end Go.Proofs.YtcedojmhgmgcgaaGreatDoor
