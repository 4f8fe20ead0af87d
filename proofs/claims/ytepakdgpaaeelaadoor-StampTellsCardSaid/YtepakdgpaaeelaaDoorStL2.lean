/-
  stamp: the statement on the order of moments.
-/
import Derived.Test.YtepakdgpaaeelaaDoorStL1
namespace Go.Proofs.YtepakdgpaaeelaaDoor
open Go.RowKit Go
set_option linter.unusedVariables false
set_option maxRecDepth 100000
theorem tm_cells {w : World} {g y : Nat} {mo d h mi s : UInt8} (hk : w.heap[g]? = some (.cells #[.int .u16 (y : Int), .int .u8 (mo.toNat : Int), .int .u8 (d.toNat : Int), .int .u8 (h.toNat : Int), .int .u8 (mi.toNat : Int), .int .u8 (s.toNat : Int)] 25)) :
    w.cell? ⟨g, 0, none⟩ = some (.int .u16 (y : Int)) ∧ w.cell? ⟨g, 1, none⟩ = some (.int .u8 (mo.toNat : Int)) ∧ w.cell? ⟨g, 2, none⟩ = some (.int .u8 (d.toNat : Int)) ∧ w.cell? ⟨g, 3, none⟩ = some (.int .u8 (h.toNat : Int)) ∧ w.cell? ⟨g, 4, none⟩ = some (.int .u8 (mi.toNat : Int)) ∧ w.cell? ⟨g, 5, none⟩ = some (.int .u8 (s.toNat : Int)) :=
  ⟨Lib.cell_of_heap hk 0, Lib.cell_of_heap hk 1, Lib.cell_of_heap hk 2, Lib.cell_of_heap hk 3, Lib.cell_of_heap hk 4, Lib.cell_of_heap hk 5⟩
theorem less_irr (a : Tm) : ∀ n k, lessFrom a a n k = false
  | 0, _ => rfl
  | n + 1, k => by unfold lessFrom; rw [if_pos rfl]; exact less_irr a n (k + 1)
theorem less_asym (a b : Tm) : ∀ n k, lessFrom a b n k = true → lessFrom b a n k = false
  | 0, _, h => by cases h
  | n + 1, k, h => by
    unfold lessFrom at h ⊢
    by_cases e : a.num k = b.num k
    · rw [if_pos e] at h
      rw [if_pos e.symm]
      exact less_asym a b n (k + 1) h
    · rw [if_neg e] at h
      rw [if_neg (fun h => e h.symm)]
      have := of_decide_eq_true h
      exact decide_eq_false (by omega)
theorem less_none (a b : Tm) : ∀ n k, lessFrom a b n k = false → lessFrom b a n k = false → ∀ j, j < n → a.num (k + j) = b.num (k + j)
  | 0, _, _, _, j, hj => absurd hj (by omega)
  | n + 1, k, h1, h2, j, hj => by
    unfold lessFrom at h1 h2
    by_cases e : a.num k = b.num k
    · rw [if_pos e] at h1
      rw [if_pos e.symm] at h2
      match j, hj with
      | 0, _ => exact e
      | j + 1, hj =>
        have := less_none a b n (k + 1) h1 h2 j (by omega)
        rwa [show k + 1 + j = k + (j + 1) by omega] at this
    · rw [if_neg e] at h1
      rw [if_neg (fun h => e h.symm)] at h2
      have q1 := of_decide_eq_false h1
      have q2 := of_decide_eq_false h2
      omega
theorem less_trans (a b c : Tm) : ∀ n k, lessFrom a b n k = true → lessFrom b c n k = true → lessFrom a c n k = true
  | 0, _, h, _ => by cases h
  | n + 1, k, h1, h2 => by
    unfold lessFrom at h1 h2 ⊢
    by_cases e : a.num k = b.num k
    · rw [if_pos e] at h1
      rw [e]
      by_cases e2 : b.num k = c.num k
      · rw [if_pos e2] at h2 ⊢
        exact less_trans a b c n (k + 1) h1 h2
      · rw [if_neg e2] at h2 ⊢
        exact h2
    · rw [if_neg e] at h1
      have q1 := of_decide_eq_true h1
      by_cases e2 : b.num k = c.num k
      · rw [← e2, if_neg e]
        exact h1
      · rw [if_neg e2] at h2
        have q2 := of_decide_eq_true h2
        rw [if_neg (by omega)]
        exact decide_eq_true (by omega)
theorem tm_ext (a b : Tm) (h : ∀ j, j < 6 → a.num j = b.num j) : a = b := by
  have h0 := h 0 (by omega)
  have h1 := UInt8.toNat_inj.1 (h 1 (by omega))
  have h2 := UInt8.toNat_inj.1 (h 2 (by omega))
  have h3 := UInt8.toNat_inj.1 (h 3 (by omega))
  have h4 := UInt8.toNat_inj.1 (h 4 (by omega))
  have h5 := UInt8.toNat_inj.1 (h 5 (by omega))
  obtain ⟨y, mo, d, h', mi, s'⟩ := a
  obtain ⟨y2, mo2, d2, h2', mi2, s2'⟩ := b
  simp only [Tm.num] at h0 h1 h2 h3 h4 h5
  subst h0 h1 h2 h3 h4 h5
  rfl
theorem less_self (a : Tm) : lessB a a = false := less_irr a 6 0
theorem less_eq (a b : Tm) (h1 : lessB a b = false) (h2 : lessB b a = false) : a = b :=
  tm_ext a b fun j hj => by have := less_none a b 6 0 h1 h2 j hj; rwa [Nat.zero_add] at this
theorem alloc3_0 (w : World) (a b c : Obj) : (((w.alloc a).alloc b).alloc c).heap[w.heap.size]? = some a := by
  rw [heap_alloc_old _ _ (by simp; omega)]
  exact heap_alloc2_old w a b
def Ord (x y z v q : Bool) : Prop := (x = true → y = false ∧ q = false ∧ (z = true → v = true)) ∧ (y = true → q = false) ∧ (x = false → y = false → q = true)
theorem ord_of (a b c : Tm) : Ord (lessB a b) (lessB b a) (lessB b c) (lessB a c) (decide (a = b)) := by
  refine ⟨fun h => ⟨less_asym a b 6 0 h, ?_, less_trans a b c 6 0 h⟩, fun h => ?_, fun h1 h2 => decide_eq_true (less_eq a b h1 h2)⟩
  · exact decide_eq_false (fun e => by rw [e, less_self] at h; cases h)
  · exact decide_eq_false (fun e => by rw [e, less_self] at h; cases h)
set_option maxHeartbeats 1600000 in
theorem order_row (a b c : Tm) (w : World) (ha : IsTm w a) (hb : IsTm w b) (hc : IsTm w c) (hT : Sizes w) :
    Calls Tryd.prog 6 #[tmV a, tmV b, tmV c] w fun e w' => e = .returned (.bool true) ∧ Below w.heap.size w w' := by
  have WK := Lib.hid (fun W (h : Sizes W) => works_any W h)
  have L1 := Lib.hid (fun W => less_any a b W ha hb)
  have L2 := Lib.hid (fun W => less_any b a W hb ha)
  have L3 := Lib.hid (fun W => less_any b c W hb hc)
  have L4 := Lib.hid (fun W => less_any a c W ha hc)
  have L5 := Lib.hid (fun W => less_any a a W ha ha)
  have hS := less_self a
  rw [hS] at L5
  clear hS
  have hO := ord_of a b c
  have CMP := Lib.hid (fun W => tm_same a b W 9998)
  generalize lessB a b = x at L1 hO
  generalize lessB b a = y at L2 hO
  generalize lessB b c = z at L3 hO
  generalize lessB a c = v at L4 hO
  generalize decide (a = b) = q at CMP hO
  unfold tmV Tm.cells at *
  clear ha hb hc
  obtain ⟨ya, moa, da, ha, mia, sa⟩ := a
  obtain ⟨yb, mob, db, hb, mib, sb⟩ := b
  obtain ⟨yc, moc, dc, hc, mic, sc⟩ := c
  simp only at *
  have HO := Lib.hid hO
  clear hO
  have hB0 : ∀ o1 o2 o3 : Obj, Below w.heap.size w (((w.alloc o1).alloc o2).alloc o3) := fun o1 o2 o3 => (((Below.refl _ _).alloc (Nat.le_refl _) _).alloc (by simp) _).alloc (by simp; omega) _
  have HB0 := Lib.hid hB0
  clear hB0
  go_enter Tryd.func6, Tryd.ntmps6
  go_wp2_with fail
  refine (L1.out _).mono ?_
  intro e w1 hw1
  obtain ⟨rfl, hb1⟩ := hw1
  have ka := (hb1.block w.heap.size (by simp; omega)).trans (alloc3_0 w _ _ _)
  have kb := (hb1.block (w.heap.size + 1) (by simp)).trans (alloc3_1 w _ _ _)
  have kc := (hb1.block (w.heap.size + 1 + 1) (by simp)).trans (alloc3_2 w _ _ _)
  have hbw1 := (HB0.out _ _ _).trans (hb1.mono (by simp; omega))
  have hz1 : w.heap.size + 1 + 1 < w1.heap.size := by have := hb1.size; simp at this; omega
  have hs1 := hbw1.size
  clear hb1 HB0
  obtain ⟨ca0, ca1, ca2, ca3, ca4, ca5⟩ := tm_cells ka
  obtain ⟨cb0, cb1, cb2, cb3, cb4, cb5⟩ := tm_cells kb
  obtain ⟨cc0, cc1, cc2, cc3, cc4, cc5⟩ := tm_cells kc
  go_wp2_with fail
  refine (L2.out _).mono ?_
  intro e w2 hw2
  obtain ⟨rfl, hb2⟩ := hw2
  have kka := (hb2.block w.heap.size (by omega)).trans ka
  have kkb := (hb2.block (w.heap.size + 1) (by omega)).trans kb
  have kkc := (hb2.block (w.heap.size + 1 + 1) (by omega)).trans kc
  have hz2 : w.heap.size + 1 + 1 < w2.heap.size := Nat.lt_of_lt_of_le hz1 hb2.size
  have hbw2 := hbw1.trans (hb2.mono hs1)
  have hs2 := hbw2.size
  clear hb2 hbw1 ka kb kc ca0 ca1 ca2 ca3 ca4 ca5 cb0 cb1 cb2 cb3 cb4 cb5 cc0 cc1 cc2 cc3 cc4 cc5 hs1 hz1
  obtain ⟨ea0, ea1, ea2, ea3, ea4, ea5⟩ := tm_cells kka
  obtain ⟨eb0, eb1, eb2, eb3, eb4, eb5⟩ := tm_cells kkb
  obtain ⟨ec0, ec1, ec2, ec3, ec4, ec5⟩ := tm_cells kkc
  have cmp := CMP.out
  cases x with
  | false =>
    cases y with
    | false =>
      obtain rfl := HO.out.2.2 rfl rfl
      go_wp2_with fail
      refine (L5.out _).mono ?_
      intro e w8 hw8
      obtain ⟨rfl, hb8⟩ := hw8
      have hbw8 := hbw2.trans (hb8.mono hs2)
      clear hb8
      go_wp2_with fail
      refine (WK.out _ (hT.below' hbw8)).mono ?_
      intro e w9 hw9
      obtain ⟨rfl, hb9⟩ := hw9
      have hbw9 := hbw8.trans (hb9.mono hbw8.size)
      clear hb9
      go_wp2
      go_ret
      exact ⟨rfl, hbw9⟩
    | true =>
      obtain rfl := HO.out.2.1 rfl
      go_wp2_with fail
      refine (L5.out _).mono ?_
      intro e w8 hw8
      obtain ⟨rfl, hb8⟩ := hw8
      have hbw8 := hbw2.trans (hb8.mono hs2)
      clear hb8
      go_wp2_with fail
      refine (WK.out _ (hT.below' hbw8)).mono ?_
      intro e w9 hw9
      obtain ⟨rfl, hb9⟩ := hw9
      have hbw9 := hbw8.trans (hb9.mono hbw8.size)
      clear hb9
      go_wp2
      go_ret
      exact ⟨rfl, hbw9⟩
  | true =>
    obtain ⟨rfl, rfl, hzv⟩ := HO.out.1 rfl
    cases z with
    | false =>
      go_wp2_with fail
      refine (L3.out _).mono ?_
      intro e w3 hw3
      obtain ⟨rfl, hb3⟩ := hw3
      have hbw3 := hbw2.trans (hb3.mono hs2)
      have kk3 := (hb3.block w.heap.size (by omega)).trans kka
      have hs3 := hbw3.size
      clear hb3 cmp
      obtain ⟨fa0, fa1, fa2, fa3, fa4, fa5⟩ := tm_cells kk3
      go_wp2_with fail
      refine (L5.out _).mono ?_
      intro e w8 hw8
      obtain ⟨rfl, hb8⟩ := hw8
      have hbw8 := hbw3.trans (hb8.mono hs3)
      clear hb8
      go_wp2_with fail
      refine (WK.out _ (hT.below' hbw8)).mono ?_
      intro e w9 hw9
      obtain ⟨rfl, hb9⟩ := hw9
      have hbw9 := hbw8.trans (hb9.mono hbw8.size)
      clear hb9
      go_wp2
      go_ret
      exact ⟨rfl, hbw9⟩
    | true =>
      obtain rfl := hzv rfl
      go_wp2_with fail
      refine (L3.out _).mono ?_
      intro e w3 hw3
      obtain ⟨rfl, hb3⟩ := hw3
      have hbw3 := hbw2.trans (hb3.mono hs2)
      have kk3 := (hb3.block w.heap.size (by omega)).trans kka
      have kc3 := (hb3.block (w.heap.size + 1 + 1) (by omega)).trans kkc
      have hs3 := hbw3.size
      have hz3 : w.heap.size + 1 + 1 < w3.heap.size := Nat.lt_of_lt_of_le hz2 hb3.size
      clear hb3 cmp
      obtain ⟨fa0, fa1, fa2, fa3, fa4, fa5⟩ := tm_cells kk3
      obtain ⟨fc0, fc1, fc2, fc3, fc4, fc5⟩ := tm_cells kc3
      go_wp2_with fail
      refine (L4.out _).mono ?_
      intro e w4 hw4
      obtain ⟨rfl, hb4⟩ := hw4
      have hbw4 := hbw3.trans (hb4.mono hs3)
      have kk4 := (hb4.block w.heap.size (by omega)).trans kk3
      have hs4 := hbw4.size
      clear hb4
      obtain ⟨ga0, ga1, ga2, ga3, ga4, ga5⟩ := tm_cells kk4
      go_wp2_with fail
      refine (L5.out _).mono ?_
      intro e w8 hw8
      obtain ⟨rfl, hb8⟩ := hw8
      have hbw8 := hbw4.trans (hb8.mono hs4)
      clear hb8
      go_wp2_with fail
      refine (WK.out _ (hT.below' hbw8)).mono ?_
      intro e w9 hw9
      obtain ⟨rfl, hb9⟩ := hw9
      have hbw9 := hbw8.trans (hb9.mono hbw8.size)
      clear hb9
      go_wp2
      go_ret
      exact ⟨rfl, hbw9⟩
end Go.Proofs.YtepakdgpaaeelaaDoor
